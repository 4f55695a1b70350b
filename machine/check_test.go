package machine

import (
	"fmt"
	"math"
	"slices"
	"strings"
	"testing"

	"belfry/api"
)

// whole tells a station that may be, with something of each kind: a and b from without, j and k by jobs, f and g far.
func whole(t *testing.T) api.Station {
	t.Helper()
	return api.Station{
		Places: []api.Place{number("a", 1), far(number("f", 2), -7), truth("b", 0), number("j", 1), far(truth("g", 0), 1), truth("k", 3)},
		Ins:    []int{0, 2},
		Jobs:   []api.Job{job(t, 5, 2, "0@1 1@2 < 4@0 or"), job(t, 3, 0, "0@0 3@1 +")},
		Sends:  []int{5, 0},
	}
}

// may asks New whether a station may be, into which a change was made.
func may(t *testing.T, want bool, change func(s *api.Station)) {
	t.Helper()
	s := whole(t)
	change(&s)
	m, e := New(s)
	if (m != nil) != want || (e == api.OK) != want || e != api.OK && e != api.ErrArg {
		t.Errorf("New(%s) = %v, %d, want %t", shown(s), m != nil, e, want)
	}
	if m != nil && (m.Round() != 0 || m.isNone()) {
		t.Errorf("New(%s) is not ahead of round 0", shown(s))
	}
}

// odd are numbers of which most calls take few.
var odd = [...]int{math.MinInt, math.MinInt32, -256, -2, -1, 0, 1, 2, 3, 4, 5, 6, 7, 8, 9, 255, 256, 257, 1000, 1001, 4000, 4001, 1 << 31, 1 << 32, 1<<32 + 1, math.MaxInt}

// P18.1: the type of a place, whether something asks for it or not, is that of a number or of yes and no.
func TestTypes(t *testing.T) {
	may(t, true, func(*api.Station) {})
	for place := range 6 {
		for _, kind := range []api.Type{api.TyNone, 3, 4, 128, 255} {
			may(t, false, func(s *api.Station) { s.Places[place].Type = kind })
		}
	}
	may(t, true, func(s *api.Station) { s.Places[2].Type = api.TyInt })
	may(t, false, func(s *api.Station) { s.Places[0].Type = api.TyBool })
	may(t, false, func(s *api.Station) { s.Places[3].Type = api.TyBool })
	may(t, false, func(s *api.Station) { s.Places[4].Type = api.TyInt })
}

// P18.1: Keep is 0 to 4 times MaxLate, and no instruction asks for what is not kept.
func TestKeeps(t *testing.T) {
	for place, asked := range []int{1, 2, 0, 1, 0, 0} {
		for _, keep := range odd {
			may(t, keep >= asked && keep <= 4*api.MaxLate, func(s *api.Station) { s.Places[place].Keep = keep })
		}
	}
}

// P18.1: a name has 1 to MaxName bytes, whichever they are, and no two are the same.
func TestNames(t *testing.T) {
	for place := range 6 {
		for count := range 100 {
			may(t, count >= 1 && count <= api.MaxName, func(s *api.Station) { s.Places[place].Name = strings.Repeat("z", count) })
		}
		may(t, false, func(s *api.Station) { s.Places[place].Name = strings.Repeat("é", 21) })
		for other := range 6 {
			may(t, place == other, func(s *api.Station) { s.Places[place].Name = s.Places[other].Name })
			may(t, false, func(s *api.Station) { s.Places[place].Name, s.Places[other].Name = "", "" })
		}
		may(t, true, func(s *api.Station) { s.Places[place].Name = "A" })
		may(t, true, func(s *api.Station) { s.Places[place].Name = "aa" })
	}
	may(t, false, func(s *api.Station) { s.Places[0].Name, s.Places[5].Name = "same", "same" })
	may(t, true, func(s *api.Station) { s.Places[0].Name, s.Places[5].Name = "k", "a" })
}

// P18.1: From is a station's number of a far place, 0 of others.
func TestFroms(t *testing.T) {
	for place, far := range []bool{false, true, false, false, true, false} {
		for _, from := range odd {
			want := from == 0
			if far {
				want = from >= 1 && from <= api.MaxStations
			}
			may(t, want, func(s *api.Station) { s.Places[place].From = from })
		}
	}
}

// P18.1: Default is any number of a far number, 0 or 1 of a far yes and no, 0 of others.
func TestDefaults(t *testing.T) {
	for place, most := range []int{0, math.MaxInt, 0, 0, 1, 0} {
		for _, n := range odd {
			want := n >= 0 && n <= most || most == math.MaxInt
			may(t, want, func(s *api.Station) { s.Places[place].Default = int64(n) })
		}
	}
}

// P18.1: a place is far or not: what is for the one kind only is wrong of the other.
func TestFarOrNot(t *testing.T) {
	for place := range 6 {
		may(t, false, func(s *api.Station) { s.Places[place].Far = !s.Places[place].Far })
	}
	more := func(p api.Place) func(s *api.Station) {
		return func(s *api.Station) { s.Places = append(s.Places, p) }
	}
	may(t, true, more(far(number("x", 9), 9)))
	may(t, false, more(number("x", 9)))
	may(t, false, more(api.Place{Name: "x", Type: api.TyInt, Far: true}))
	may(t, false, more(api.Place{Name: "x", Type: api.TyInt, From: 2}))
	may(t, false, more(api.Place{}))
}

// P18.1: Ins are places that are not far, in order, each once, and no job's.
func TestIns(t *testing.T) {
	for _, l := range [][]int{nil, {0}, {2}, {2, 0}, {0, 0}, {2, 2}, {0, 2, 2}, {0, 0, 2}, {0, 2, 0}, {0, 1}, {0, 1, 2}, {0, 2, 4}, {1, 4}, {0, 2, 3}, {0, 2, 5}, {0, 3}, {3, 5}, {0, 2, 3, 5}} {
		may(t, false, func(s *api.Station) { s.Ins = l })
	}
	for _, i := range odd {
		may(t, i == 0, func(s *api.Station) { s.Ins[0] = i })
		may(t, i == 2, func(s *api.Station) { s.Ins[1] = i })
		may(t, false, func(s *api.Station) { s.Ins = append(s.Ins, i) })
	}
	may(t, false, func(s *api.Station) { s.Ins = slices.Repeat([]int{0}, 1<<20) })
}

// P18.1: Ins that stand the other way round are not in order, however many they are.
func TestInsInOrder(t *testing.T) {
	var s api.Station
	for i := range maxPlaces {
		s.Places = append(s.Places, number(fmt.Sprint("a", i), 0))
		s.Ins = append(s.Ins, i)
	}
	if _, e := New(s); e != api.OK {
		t.Fatal(e)
	}
	for i := range maxPlaces - 1 {
		s.Ins[i], s.Ins[i+1] = s.Ins[i+1], s.Ins[i]
		if m, e := New(s); m != nil || e != api.ErrArg {
			t.Error(i, e)
		}
		s.Ins[i], s.Ins[i+1] = s.Ins[i+1], s.Ins[i]
	}
	slices.Reverse(s.Ins)
	if m, e := New(s); m != nil || e != api.ErrArg {
		t.Error(e)
	}
}

// P18.1: the places of jobs are not far, none of Ins, each once, in whatever order; each place that is not far is one of Ins or a job's.
func TestJobs(t *testing.T) {
	for _, i := range odd {
		may(t, i == 5, func(s *api.Station) { s.Jobs[0].Place = i })
		may(t, i == 3, func(s *api.Station) { s.Jobs[1].Place = i })
		may(t, false, func(s *api.Station) { s.Jobs = append(s.Jobs, api.Job{Place: i, Code: words(t, "1")}) })
		may(t, false, func(s *api.Station) { s.Jobs = append(s.Jobs, api.Job{Place: i, Code: words(t, "true")}) })
	}
	may(t, true, func(s *api.Station) { slices.Reverse(s.Jobs) })
	may(t, false, func(s *api.Station) { s.Jobs[0].Place, s.Jobs[1].Place = 3, 5 })
	may(t, false, func(s *api.Station) { s.Jobs = s.Jobs[:1] })
	may(t, false, func(s *api.Station) { s.Jobs = s.Jobs[1:] })
	may(t, false, func(s *api.Station) { s.Jobs = nil })
	may(t, false, func(s *api.Station) { s.Jobs[1] = s.Jobs[0] })
	may(t, false, func(s *api.Station) { s.Jobs = slices.Repeat(s.Jobs, 1<<18) })
	may(t, true, func(s *api.Station) {
		s.Ins = []int{0}
		s.Jobs = append(s.Jobs, job(t, 2, 1000, "false"))
	})
	may(t, true, func(s *api.Station) {
		s.Ins, s.Jobs = []int{0, 2, 3, 5}, nil
	})
	may(t, false, func(s *api.Station) {
		s.Ins, s.Jobs = []int{0, 2, 3}, nil
	})
}

// P18.1: a job's Late is 0 to MaxLate.
func TestLates(t *testing.T) {
	for i := range 2 {
		for _, late := range odd {
			may(t, late >= 0 && late <= api.MaxLate, func(s *api.Station) { s.Jobs[i].Late = late })
		}
	}
}

// P18.1: a job's Code leaves its place's type, as code.Check has it.
func TestCodes(t *testing.T) {
	for _, c := range []struct {
		words           string
		isNumber, isYes bool
	}{
		{"1", true, false}, {"true", false, true}, {"0@0", true, false}, {"2@0", false, true}, {"1@2", true, false}, {"4@0", false, true}, {"5@3", false, true},
		{"", false, false}, {"1 2", false, false}, {"+", false, false}, {"1 +", false, false}, {"1 true +", false, false}, {"true neg", false, false}, {"1 not", false, false},
		{"0@2", false, false}, {"2@1", false, false}, {"4@1", false, false}, {"6@0", false, false}, {"-1@0", false, false}, {"0@-1", false, false},
		{"1 2 ->32", true, false}, {"1 2 ->33", false, false}, {"1 2 ->-1", false, false}, {"1 true ->0", false, false}, {"true 1 false if", false, false}, {"true true false if", false, true},
		{"1 2 <", false, true}, {"1" + strings.Repeat(" neg", 799), true, false}, {"1" + strings.Repeat(" neg", 800), false, false},
	} {
		may(t, c.isYes, func(s *api.Station) { s.Jobs[0].Code = words(t, c.words) })
		may(t, c.isNumber, func(s *api.Station) { s.Jobs[1].Code = words(t, c.words) })
	}
	for op := range 256 {
		may(t, op == int(api.ExInt) || op == int(api.ExName), func(s *api.Station) { s.Jobs[1].Code = []api.Instr{{Op: api.Op(op)}} })
	}
	may(t, false, func(s *api.Station) { s.Jobs[1].Code[2].N = 1 })
	may(t, false, func(s *api.Station) { s.Jobs[1].Code[2].Ago = 1 })
	may(t, false, func(s *api.Station) { s.Jobs[1].Code = slices.Repeat(words(t, "1"), 1<<20) })
}

// P18.1: Sends are places that are not far, each once, of ins and of jobs, in whatever order.
func TestSends(t *testing.T) {
	for _, l := range [][]int{nil, {0}, {5}, {0, 5}, {5, 3, 2, 0}, {0, 2, 3, 5}, {2, 5, 0, 3}} {
		may(t, true, func(s *api.Station) { s.Sends = l })
	}
	for _, l := range [][]int{{0, 0}, {5, 5}, {0, 5, 0}, {0, 2, 3, 5, 5}, {1}, {4}, {0, 1}, {4, 0}, {6}, {-1}, {0, 2, 3, 5, 6}} {
		may(t, false, func(s *api.Station) { s.Sends = l })
	}
	for _, i := range odd {
		may(t, i == 0 || i == 2 || i == 3 || i == 5, func(s *api.Station) { s.Sends = []int{i} })
		may(t, i == 2 || i == 3, func(s *api.Station) { s.Sends = append(s.Sends, i) })
	}
	may(t, false, func(s *api.Station) { s.Sends = slices.Repeat([]int{0}, 1<<20) })
}

// P18.1: 512 places are as many as there may be.
func TestHowManyPlaces(t *testing.T) {
	for _, count := range []int{0, 1, 500, 511, 512, 513, 514, 600, 1024, 1 << 16} {
		var one, two, three api.Station
		for i := range count {
			one.Places = append(one.Places, number(fmt.Sprint("x", i), 0))
			one.Ins = append(one.Ins, i)
			three.Places = append(three.Places, far(truth(fmt.Sprint("x", i), 0), 1))
			two.Jobs = append(two.Jobs, api.Job{Place: count - 1 - i, Code: []api.Instr{{Op: api.ExInt}}})
		}
		two.Places, one.Sends = one.Places, one.Ins
		for i, s := range []api.Station{one, two, three} {
			m, e := New(s)
			if (m != nil) != (count <= 512) || (e == api.OK) != (count <= 512) || e != api.OK && e != api.ErrArg {
				t.Error(i, count, m != nil, e)
			}
		}
	}
}
