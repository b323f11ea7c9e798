package pref_test

import (
	"fmt"
	"slices"
	"testing"

	"bellman/api"
	"bellman/pref"
)

// without are the outs but for o.
func without(outs []api.Out, o api.Out) []api.Out {
	var left []api.Out
	for _, other := range outs {
		if other != o {
			left = append(left, other)
		}
	}
	return left
}

// with are the outs with o in its place, by what its text is.
func with(outs []api.Out, o api.Out) []api.Out {
	key := func(o api.Out) string { return fmt.Sprintf("%s\x00%d", o.Category, o.Channel) }
	all := append(slices.Clone(outs), o)
	slices.SortFunc(all, func(a, b api.Out) int {
		if key(a) < key(b) {
			return -1
		}
		return 1
	})
	return all
}

// checkUser tells of an answer that it is not that user, and that error.
func checkUser(t *testing.T, call string, u api.User, err api.Errno, want api.User, no api.Errno) {
	t.Helper()
	if told(u) != told(want) || err != no {
		t.Fatalf("%.300s is %.300v, %d, not %.300v, %d", call, u, err, want, no)
	}
}

func TestOffAndOnOfAllSetsOfOuts(t *testing.T) { // 17.2, 17.5
	for bits := range 1 << 12 {
		u := api.User{Name: "ann", Version: int64(bits), Quiet: night(), Outs: subset(bits)}
		for _, o := range universe() {
			there := slices.Contains(u.Outs, o)
			off, on := u, u
			off.Version, on.Version = u.Version+1, u.Version+1
			off.Outs, on.Outs = with(u.Outs, o), without(u.Outs, o)
			offErr, onErr := api.OK, api.OK
			if there {
				off, offErr = u, api.ErrTwice
			} else {
				on, onErr = u, api.ErrNone
			}
			got, err := pref.Off(u, o)
			checkUser(t, told("Off", u, o), got, err, off, offErr)
			got, err = pref.On(u, o)
			checkUser(t, told("On", u, o), got, err, on, onErr)
		}
	}
}

func TestOffAndOnRefuseWrongOuts(t *testing.T) { // 17.2
	for _, u := range rights() {
		for _, o := range noOuts() {
			got, err := pref.Off(u, o)
			checkUser(t, told("Off", u, o), got, err, u, api.ErrForm)
			got, err = pref.On(u, o)
			checkUser(t, told("On", u, o), got, err, u, api.ErrForm)
		}
	}
}

func TestOffAsLongAsThereIsRoom(t *testing.T) { // 17.2
	u := api.User{Name: "ann", Outs: many(31)}
	for _, o := range []api.Out{{}, {Category: "c03", Channel: 0}, {Category: "z", Channel: 3}, {Category: "a"}, {Category: "c07", Channel: 3}} {
		want := u
		want.Version, want.Outs = 1, with(u.Outs, o)
		if slices.Contains(u.Outs, o) {
			want = u
		}
		got, err := pref.Off(u, o)
		if len(want.Outs) == 31 {
			checkUser(t, told("Off", o), got, err, u, api.ErrTwice)
			continue
		}
		checkUser(t, told("Off", o), got, err, want, api.OK)
		// Now there are 32.
		for _, more := range []api.Out{{Channel: 1}, {Category: "c99"}, {Category: "b", Channel: 2}} {
			full, err := pref.Off(got, more)
			checkUser(t, told("Off", more), full, err, got, api.ErrFull)
		}
		full, err := pref.Off(got, o)
		checkUser(t, told("Off", o), full, err, got, api.ErrTwice)
		full, err = pref.Off(got, api.Out{Category: "Z"})
		checkUser(t, "Off Z", full, err, got, api.ErrForm)
	}
}

func TestHoursTakeOthers(t *testing.T) { // 17.2
	for _, u := range rights() {
		for _, q := range quiets() {
			want, no := u, api.ErrFull
			if u.Version < maxCount {
				want.Version, want.Quiet, no = u.Version+1, q, api.OK
			}
			got, err := pref.Hours(u, q)
			checkUser(t, told("Hours", u, q), got, err, want, no)
		}
		for _, q := range noQuiets() {
			got, err := pref.Hours(u, q)
			checkUser(t, told("Hours", u, q), got, err, u, api.ErrForm)
		}
	}
}

func TestThereAreOnlySoManyVersions(t *testing.T) { // 17.2
	there, other := api.Out{Category: "c00", Channel: 1}, api.Out{Category: "c00", Channel: 0}
	u := api.User{Name: "ann", Version: maxCount - 1, Quiet: night(), Outs: []api.Out{there}}
	for _, change := range []func(api.User) (api.User, api.Errno){
		func(u api.User) (api.User, api.Errno) { return pref.Off(u, other) },
		func(u api.User) (api.User, api.Errno) { return pref.On(u, there) },
		func(u api.User) (api.User, api.Errno) { return pref.Hours(u, api.Quiet{}) },
	} {
		if got, err := change(u); got.Version != maxCount || err != api.OK {
			t.Errorf("of the last version but one there is %v, %d", got, err)
		}
		last := u
		last.Version = maxCount
		got, err := change(last)
		checkUser(t, "a change of the last version", got, err, last, api.ErrFull)
	}
	// What is refused anyway is told as that.
	u.Version = maxCount
	for _, c := range []struct {
		call func(api.User, api.Out) (api.User, api.Errno)
		o    api.Out
		want api.Errno
	}{
		{pref.Off, api.Out{Channel: 4}, api.ErrForm},
		{pref.Off, there, api.ErrTwice},
		{pref.On, api.Out{Category: "A"}, api.ErrForm},
		{pref.On, other, api.ErrNone},
	} {
		got, err := c.call(u, c.o)
		checkUser(t, told("of the last version", c.o), got, err, u, c.want)
	}
	got, err := pref.Hours(u, noQuiets()[0])
	checkUser(t, "Hours of the last version", got, err, u, api.ErrForm)
}

// wants are all categories and channels, as bits, that u wants.
func wants(u api.User) int {
	bits := 0
	for _, category := range []string{"a", "b", "c"} {
		for _, c := range channels {
			bits <<= 1
			if is, _ := pref.Wants(u, category, c); is {
				bits++
			}
		}
	}
	return bits
}

func TestWhatIsOffIsNotWanted(t *testing.T) { // 17.5
	for bits := range 1 << 12 {
		u := api.User{Name: "ann", Outs: subset(bits)}
		for _, o := range universe() {
			off, err := pref.Off(u, o)
			if err != api.OK {
				continue
			}
			for _, category := range []string{"a", "b", "c"} {
				for _, c := range channels {
					of := (o.Category == "" || o.Category == category) && (o.Channel == 0 || o.Channel == c)
					if is, _ := pref.Wants(off, category, c); is && of {
						t.Fatalf("off of %v, of %v: %s is wanted by %d", o, u.Outs, category, c)
					}
				}
			}
			on, err := pref.On(off, o)
			want := u
			want.Version = 2
			checkUser(t, told("on again", u, o), on, err, want, api.OK)
		}
	}
}

func TestWithMoreOutsNothingMoreIsWanted(t *testing.T) { // 17.6
	for bits := range 1 << 12 {
		u := api.User{Name: "ann", Outs: subset(bits)}
		was := wants(u)
		for _, o := range universe() {
			off, _ := pref.Off(u, o)
			if is := wants(off); is&^was != 0 {
				t.Fatalf("off of %v, of %v: %b is wanted, not %b", o, u.Outs, is, was)
			}
			on, _ := pref.On(u, o)
			if is := wants(on); was&^is != 0 {
				t.Fatalf("on of %v, of %v: %b is wanted, not %b", o, u.Outs, is, was)
			}
		}
	}
}
