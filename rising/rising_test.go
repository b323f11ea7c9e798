package rising_test

import (
	"fmt"
	"math/rand"
	"slices"
	"testing"

	"bellman/api"
	"bellman/rising"
)

// part is one that stands by its key; a key below 0 is not right. What it has within must be copied.
type part struct {
	key    int
	within []int
}

// made is one of that key that has a number within.
func made(key, within int) part {
	return part{key, []int{within}}
}

// kind is that of lists of at most so many parts.
func kind(most int) rising.Kind[part] {
	return rising.Kind[part]{
		Most: most,
		Check: func(p part) api.Errno {
			if p.key < 0 {
				return api.ErrRange
			}
			return api.OK
		},
		Order: func(a, b part) int { return 3 * (a.key - b.key) },
		Copy:  func(p part) part { return part{p.key, append([]int{}, p.within...)} },
	}
}

// listed is a list of those keys, each with its place within.
func listed(keys ...int) []part {
	var l []part
	for i, key := range keys {
		l = append(l, made(key, i))
	}
	return l
}

// told is a list as a text.
func told(l ...part) string {
	return fmt.Sprint(l)
}

// lists are all of the keys from -1 to 3, of at most five parts.
func lists() [][]part {
	all := [][]int{nil}
	for at := 0; at < len(all); at++ {
		if len(all[at]) == 5 {
			break
		}
		for key := -1; key <= 3; key++ {
			all = append(all, append(slices.Clone(all[at]), key))
		}
	}
	var l [][]part
	for _, keys := range all {
		l = append(l, listed(keys...))
	}
	return l
}

// isRight tells whether l is, with so many parts at most.
func isRight(l []part, most int) bool {
	for i, a := range l {
		for _, b := range l[:i] {
			if b.key >= a.key {
				return false
			}
		}
		if a.key < 0 {
			return false
		}
	}
	return len(l) <= most
}

func TestAllTellsWhatIsRight(t *testing.T) {
	rights := 0
	for _, l := range lists() {
		for most := range 5 {
			want := api.ErrForm
			if isRight(l, most) {
				want = api.OK
				rights++
			}
			if err := kind(most).All(l); err != want {
				t.Fatalf("All of %v, at most %d, is %d, not %d", l, most, err, want)
			}
		}
	}
	if rights != 1+5+11+15+16 {
		t.Errorf("%d are right", rights)
	}
}

func TestFindTellsThePartOfThePlace(t *testing.T) {
	for _, l := range lists() {
		for key := -1; key <= 4; key++ {
			want, no := part{}, api.ErrNone
			for _, p := range l {
				if p.key == key {
					want, no = p, api.OK
				}
			}
			if !isRight(l, 3) {
				want, no = part{}, api.ErrForm
			}
			if got, err := kind(3).Find(l, made(key, 9)); told(got) != told(want) || err != no {
				t.Fatalf("Find of %d in %v is %v, %d, not %v, %d", key, l, got, err, want, no)
			}
		}
	}
}

func TestPutTellsOneMoreOrAnother(t *testing.T) {
	for _, l := range lists() {
		for key := -1; key <= 4; key++ {
			p := made(key, 9)
			var want []part
			for _, other := range l {
				if other.key != key {
					want = append(want, other)
				}
			}
			want = append(want, p)
			slices.SortFunc(want, func(a, b part) int { return a.key - b.key })
			no := api.OK
			switch {
			case !isRight(l, 3):
				want, no = nil, api.ErrForm
			case key < 0:
				want, no = l, api.ErrForm
			case len(want) > 3:
				want, no = l, api.ErrFull
			}
			if got, err := kind(3).Put(l, p); told(got...) != told(want...) || err != no {
				t.Fatalf("Put of %d into %v is %v, %d, not %v, %d", key, l, got, err, want, no)
			}
		}
	}
}

func TestCopiesAreOfAnyParts(t *testing.T) {
	for _, l := range lists() {
		if got := kind(0).Copies(l); told(got...) != told(l...) {
			t.Fatalf("Copies of %v is %v", l, got)
		}
	}
}

func TestAnswersAreNewMemory(t *testing.T) {
	r := rand.New(rand.NewSource(1))
	k := kind(5)
	for range 200 {
		l := listed(1, 3, 5, 7)
		l = append(l, made(99, 99))[:4]
		p := made(r.Intn(9), 9)
		twice, _ := k.Put(l, p)
		put, _ := k.Put(l, p)
		full, _ := kind(4).Put(l, made(4, 4))
		refused, _ := k.Put(l, made(-1, 4))
		found, _ := k.Find(l, made(5, 0))
		was := told(put...)
		for _, answer := range [][]part{twice, full, refused, k.Copies(l), {found}} {
			for i := range answer {
				answer[i].within[0] = -7
				answer[i].key = -7
			}
		}
		if told(l[:5]...) != told(append(listed(1, 3, 5, 7), made(99, 99))...) || told(p) != told(made(p.key, 9)) {
			t.Fatalf("what was handed in is %v, %v now", l[:5], p)
		}
		if told(put...) != was {
			t.Fatalf("an answer shares memory with another one: %v, not %v", put, was)
		}
	}
}
