package route_test

import (
	"math"
	"math/rand"
	"testing"

	"bellman/api"
	"bellman/quiet"
	"bellman/route"
)

// expected is how a thing is to go on, from a level on that may be asked for, at a time.
func expected(u api.User, c api.Category, from int, t int64) api.Route {
	end := api.Route{Kind: api.RouteEnd, Level: len(c.Chain), At: t}
	free, err := t, api.OK
	if !c.Critical {
		free, err = quiet.Free(u.Quiet, t)
	}
	if err != api.OK {
		return end
	}
	for _, at := range wanted(u, c) {
		if at >= from && free == t {
			return api.Route{Kind: api.RouteSend, Level: at, At: t}
		}
		if at >= from {
			return api.Route{Kind: api.RouteHold, Level: at, At: free}
		}
	}
	return end
}

func TestDecideTellsHowItGoesOn(t *testing.T) { // 19.2
	day, night, morning := noon, noon+11*3600, noon+19*3600
	send := func(level int, at int64) api.Route {
		return api.Route{Kind: api.RouteSend, Level: level, At: at}
	}
	hold := func(level int) api.Route { return api.Route{Kind: api.RouteHold, Level: level, At: morning} }
	end := func(at int64) api.Route { return api.Route{Kind: api.RouteEnd, Level: 3, At: at} }
	all, news, utc := api.Out{}, api.Out{Category: "news"}, nights(api.Zone{})
	push, mail := api.Out{Channel: 1}, api.Out{Channel: 2}
	for i, c := range []struct {
		u        api.User
		critical bool
		from     int
		t        int64
		want     api.Route
	}{
		{user(utc), false, 0, day, send(0, day)},
		{user(utc), false, 2, day, send(2, day)},
		{user(utc), false, 3, day, end(day)},
		{user(utc), false, 0, night, hold(0)},
		{user(utc), false, 2, night, hold(2)},
		{user(utc), false, 3, night, end(night)},
		{user(utc), true, 0, night, send(0, night)},
		{user(utc), true, 3, night, end(night)},
		{user(utc), false, 1, morning, send(1, morning)},
		{user(utc, push), false, 0, day, send(1, day)},
		{user(utc, push), false, 1, day, send(1, day)},
		{user(utc, mail), false, 0, day, send(0, day)},
		{user(utc, mail), false, 1, day, send(2, day)},
		{user(utc, mail), false, 1, night, hold(2)},
		{user(utc, mail), true, 1, night, send(2, night)},
		{user(utc, push, mail), false, 0, night, hold(2)},
		{user(utc, push, mail, api.Out{Channel: 3}), false, 0, day, end(day)},
		{user(utc, all), false, 0, night, end(night)},
		{user(utc, all), true, 0, night, end(night)},
		{user(utc, news), true, 0, day, end(day)},
		{user(always()), false, 0, day, end(day)},
		{user(always()), true, 0, day, send(0, day)},
		{user(always(), push), true, 0, day, send(1, day)},
		{user(utc), false, 0, maxTime, end(maxTime)},
		{user(utc), false, 0, maxTime - 7200, send(0, maxTime-7200)},
		{user(utc), false, 0, maxTime - 7199, end(maxTime - 7199)},
		{user(utc), true, 1, maxTime, send(1, maxTime)},
		{user(api.Quiet{}), false, 0, maxTime, send(0, maxTime)},
		{user(api.Quiet{}), false, 0, minTime, send(0, minTime)},
	} {
		category := chained(1, 2, 3)
		category.Critical = c.critical
		if r, err := route.Decide(c.u, category, c.from, c.t); r != c.want || err != api.OK {
			t.Errorf("%d: Decide is %+v, %d, not %+v", i, r, err, c.want)
		}
	}
}

func TestDecideOfAllChainsAndOuts(t *testing.T) { // 19.2
	night := nights(berlin())
	for bits := range 1 << 8 {
		for i, c := range chains() {
			q, at := night, noon
			if (bits+i)%3 == 0 {
				at = noon + 10*3600
			}
			if (bits+i)%7 == 0 {
				q = always()
			}
			c.Critical = (bits+i)%2 == 0
			u := user(q, outs(bits)...)
			from := (bits / 4) % (len(c.Chain) + 1)
			want := expected(u, c, from, at)
			if r, err := route.Decide(u, c, from, at); r != want || err != api.OK {
				t.Fatalf("Decide(%v, %v, %d, %d) is %+v, %d, not %+v", u, c, from, at, r, err, want)
			}
		}
	}
}

func TestDecideOfAllLevelsAndTimes(t *testing.T) { // 19.2
	for _, q := range quiets() {
		for _, bits := range []int{0, 1, 2, 4, 8, 6, 10, 12, 14, 1 << 4, 1 << 6} {
			u := user(q, outs(bits)...)
			for _, c := range []api.Category{chained(1), chained(2, 1), chained(1, 2, 3, 2), critical(chained(1, 2, 3, 2)), critical(chained(2))} {
				for from := range len(c.Chain) + 1 {
					for _, at := range times() {
						want := expected(u, c, from, at)
						if r, err := route.Decide(u, c, from, at); r != want || err != api.OK {
							t.Fatalf("Decide(%v, %v, %d, %d) is %+v, %d, not %+v", u, c, from, at, r, err, want)
						}
					}
				}
			}
		}
	}
}

func TestDecideRefusesWhatIsNoLevel(t *testing.T) { // 19.2
	for _, u := range []api.User{user(api.Quiet{}), user(always()), user(api.Quiet{}, api.Out{}), user(nights(berlin()), api.Out{Channel: 2})} {
		for _, c := range chains() {
			levels := len(c.Chain)
			for _, c := range []api.Category{c, critical(c)} {
				for _, from := range []int{-1, -2, -levels, math.MinInt, levels + 1, levels + 2, 5, 100, math.MaxInt} {
					if r, err := route.Decide(u, c, from, noon); r != (api.Route{}) || err != api.ErrRange {
						t.Fatalf("Decide from %d of %d levels is %+v, %d, not ErrRange", from, levels, r, err)
					}
				}
			}
		}
	}
}

func TestDecideRefusesWhatIsNoTime(t *testing.T) { // 19.2
	for _, q := range quiets() {
		// That nothing is wanted, or that all levels are behind, changes nothing.
		for _, u := range []api.User{user(q), user(q, api.Out{})} {
			for _, c := range []api.Category{chained(1, 2), critical(chained(1, 2))} {
				for from := -1; from <= 3; from++ {
					for _, at := range noTimes() {
						if r, err := route.Decide(u, c, from, at); r != (api.Route{}) || err != api.ErrRange {
							t.Fatalf("Decide from %d at %d is %+v, %d, not ErrRange", from, at, r, err)
						}
					}
				}
			}
		}
	}
}

// anyUser is a right one.
func anyUser(r *rand.Rand) api.User {
	all := quiets()
	q := all[r.Intn(len(all))]
	if r.Intn(2) == 0 {
		from := r.Intn(10000)
		q = api.Quiet{Zone: api.Zone{Base: r.Intn(1801) - 900}, Week: []api.Range{{From: from, To: from + 1 + r.Intn(10080-from)}}}
	}
	return user(q, outs(r.Intn(256)&r.Intn(256))...)
}

func TestWhatIsSentIsWantedAndWhatIsHeldIsSent(t *testing.T) { // 19.4, 19.5
	r := rand.New(rand.NewSource(19))
	all := chains()
	seen := map[api.RouteKind]int{}
	for range 40000 {
		u, c := anyUser(r), all[r.Intn(len(all))]
		c.Critical = r.Intn(5) == 0
		from, at := r.Intn(len(c.Chain)+1), noon+r.Int63n(86400*700)
		got, err := route.Decide(u, c, from, at)
		if err != api.OK {
			t.Fatalf("Decide is %d", err)
		}
		seen[got.Kind]++
		switch got.Kind {
		case api.RouteSend:
			if got.At != at || got.Level < from || !isAllowed(u, c, c.Chain[got.Level].Channel, at) {
				t.Fatalf("%v is told %v at %d by level %d", u, c, at, got.Level)
			}
		case api.RouteHold:
			late, _ := route.Late(u, c, at)
			want := api.Route{Kind: api.RouteSend, Level: got.Level, At: got.At}
			if next, err := route.Decide(u, c, from, got.At); got.At <= at || late != got.At || next != want || err != api.OK {
				t.Fatalf("what is held up to %d goes on by %+v, %d", got.At, next, err)
			}
			if isAllowed(u, c, c.Chain[got.Level].Channel, at) || isAllowed(u, c, c.Chain[got.Level].Channel, got.At-1) {
				t.Fatalf("%v is held from %d to %d, though it is not quiet for %v", c, at, got.At, u)
			}
		case api.RouteEnd:
			if got.Level != len(c.Chain) || got.At != at {
				t.Fatalf("it ends by %+v", got)
			}
		default:
			t.Fatalf("there is no route %+v", got)
		}
	}
	for _, kind := range []api.RouteKind{api.RouteSend, api.RouteHold, api.RouteEnd} {
		if seen[kind] < 1000 {
			t.Errorf("%d are of kind %d", seen[kind], kind)
		}
	}
}
