package slots

import (
	"math"
	"reflect"
	"slices"
	"sync"
	"testing"

	"belfry/api"
)

// chapter is the setup of the chapter's examples.
var chapter = api.Setup{Bit: 10, Near: 2, Far: 5, Drift: 100, Bad: 1}

// times tells the same number, so many times.
func times(count, n int) []int {
	l := make([]int, count)
	for place := range l {
		l[place] = n
	}
	return l
}

// made asks Make for a table, and holds what it answers against the chapter's words for its guard.
func made(t *testing.T, s api.Setup, bits []int) api.Table {
	t.Helper()
	x, e := Make(s, bits)
	if e != api.OK {
		t.Fatalf("Make(%+v, %v) = %d", s, bits, e)
	}
	if want := laid(s, bits, x.Guard); !reflect.DeepEqual(x, want) {
		t.Fatalf("Make(%+v, %v) = %+v, want %+v", s, bits, x, want)
	}
	if x.Guard > api.MaxGuard || x.Guard < skew(s, x.Round) || !Fits(s, bits, x) {
		t.Fatalf("Make(%+v, %v) = %+v, which does not fit", s, bits, x)
	}
	return x
}

// refuses asks Make for an error, and nothing beside it.
func refuses(t *testing.T, s api.Setup, bits []int, want api.Errno) {
	t.Helper()
	if x, e := Make(s, bits); e != want || !reflect.DeepEqual(x, api.Table{}) {
		t.Errorf("Make(%+v, %v) = %+v, %d, want %d", s, bits, x, e, want)
	}
}

// notBe are setups of which one number is beyond its bound.
var notBe = []api.Setup{
	{},
	{Bit: -1},
	{Bit: 1000001},
	{Bit: 1, Near: -1},
	{Bit: 1, Near: 1},
	{Bit: 1, Near: 6, Far: 5},
	{Bit: 1, Near: -2, Far: -1},
	{Bit: 1, Far: -1},
	{Bit: 1, Far: 1000001},
	{Bit: 1, Near: 1000001, Far: 1000001},
	{Bit: 1, Drift: -1},
	{Bit: 1, Drift: 10001},
	{Bit: 1, Bad: -1},
	{Bit: 1, Bad: 3},
	{Bit: math.MaxInt, Near: math.MinInt, Far: math.MaxInt, Drift: math.MaxInt, Bad: math.MinInt},
	{Bit: 1, Near: math.MinInt, Far: math.MaxInt},
	{Bit: 1, Drift: math.MaxInt},
	{Bit: 1, Bad: math.MaxInt},
}

// P16.1
func TestCheck(t *testing.T) {
	for _, s := range []api.Setup{
		chapter,
		{Bit: 1},
		{Bit: 1000000},
		{Bit: 1, Far: 1000000},
		{Bit: 1, Near: 5, Far: 5},
		{Bit: 1, Near: 1000000, Far: 1000000},
		{Bit: 1, Drift: 10000},
		{Bit: 1, Bad: 2},
	} {
		if !Check(s) {
			t.Errorf("Check(%+v) = false", s)
		}
	}
	for _, s := range notBe {
		if Check(s) {
			t.Errorf("Check(%+v) = true", s)
		}
	}
}

// P16.2
func TestSkew(t *testing.T) {
	fast := api.Setup{Bit: 1, Drift: 10000} // a hundredth
	for _, c := range []struct {
		s     api.Setup
		round int
		want  int
	}{
		{chapter, 0, 20},
		{chapter, 1000000, 820},
		{chapter, 1, 28}, // a rest counts as one more
		{chapter, 9999, 28},
		{chapter, 10000, 28}, // no rest
		{chapter, 10001, 36},
		{chapter, 20000, 36},
		{chapter, 1 << 40, 20 + 8*109951163},
		{chapter, 1<<40 + 1, 0},
		{chapter, math.MaxInt, 0},
		{chapter, -1, 0},
		{chapter, math.MinInt, 0},
		{api.Setup{Bit: 1}, 0, 8},
		{api.Setup{Bit: 1}, 1 << 40, 8},
		{api.Setup{Bit: 1, Near: 7, Far: 7}, 5, 8},
		{api.Setup{Bit: 1, Far: 1000000}, 5, 4000008},
		{fast, 100, 16},
		{fast, 101, 24},
		{fast, 1 << 40, 8 + 8*10995116278},
		{api.Setup{Bit: 1, Drift: 1}, 1000000, 16},
		{api.Setup{Bit: 1, Drift: 1}, 1000001, 24},
	} {
		if n := Skew(c.s, c.round); n != c.want {
			t.Errorf("Skew(%+v, %d) = %d, want %d", c.s, c.round, n, c.want)
		}
	}
	for _, s := range notBe {
		if n := Skew(s, 5); n != 0 {
			t.Errorf("Skew(%+v, 5) = %d, want 0", s, n)
		}
	}
}

// P16.3: the chapter's examples.
func TestMake(t *testing.T) {
	x := made(t, chapter, times(4, 100))
	want := api.Table{Guard: 28, Round: 4244, Slots: []api.Slot{
		{Open: 0, Send: 28, Shut: 1061},
		{Open: 1061, Send: 1089, Shut: 2122},
		{Open: 2122, Send: 2150, Shut: 3183},
		{Open: 3183, Send: 3211, Shut: 4244},
	}}
	if !reflect.DeepEqual(x, want) {
		t.Errorf("Make = %+v, want %+v", x, want)
	}
	refuses(t, chapter, times(3, 100), api.ErrArg)
}

// P16.3: frames of several lengths have slots of several lengths.
func TestMakeOfSeveralLengths(t *testing.T) {
	x := made(t, api.Setup{Bit: 3, Near: 1, Far: 4}, []int{1, 100000, 7})
	want := api.Table{Guard: 20, Round: 300156, Slots: []api.Slot{
		{Open: 0, Send: 20, Shut: 47},
		{Open: 47, Send: 67, Shut: 300091},
		{Open: 300091, Send: 300111, Shut: 300156},
	}}
	if !reflect.DeepEqual(x, want) {
		t.Errorf("Make = %+v, want %+v", x, want)
	}
}

// P16.3: how many numbers, and which.
func TestMakeAtBounds(t *testing.T) {
	still := api.Setup{Bit: 1}
	for _, bits := range [][]int{{1}, {100000}, times(api.MaxStations, 1), times(api.MaxStations, 100000)} {
		made(t, still, bits)
	}
	for _, bits := range [][]int{
		nil,
		{},
		times(api.MaxStations+1, 1),
		times(1000, 1),
		{0},
		{-1},
		{100001},
		{math.MaxInt},
		{math.MinInt},
		{0, 1, 1},
		{1, 1, 0},
		{1, 100001, 1},
		{1, 1, 100001},
	} {
		refuses(t, still, bits, api.ErrArg)
	}
	for bad := 1; bad <= 2; bad++ {
		s := api.Setup{Bit: 1, Bad: bad}
		refuses(t, s, times(1, 1), api.ErrArg)
		refuses(t, s, times(3*bad, 1), api.ErrArg)
		made(t, s, times(3*bad+1, 1))
		made(t, s, times(api.MaxStations, 1))
	}
}

// P16.3: ErrArg comes first, where there is no guard either.
func TestMakeOfNoSetup(t *testing.T) {
	for _, s := range notBe {
		refuses(t, s, times(8, 100), api.ErrArg)
	}
	for _, s := range []api.Setup{
		{Bit: 1000000, Drift: 10001},
		{Bit: 1000001, Drift: 10000},
		{Bit: 1000000, Drift: 10000, Bad: 3},
	} {
		refuses(t, s, times(8, 100000), api.ErrArg)
	}
	tight := api.Setup{Bit: 1000000, Drift: 10000, Bad: 2}
	refuses(t, tight, times(8, 100000), api.ErrTight)
	refuses(t, tight, times(6, 100000), api.ErrArg)
	refuses(t, tight, times(9, 100000), api.ErrArg)
	refuses(t, tight, times(8, 100001), api.ErrArg)
	refuses(t, tight, append(times(7, 100000), 0), api.ErrArg)
}

// P16.3: where the round grows with the guard, and the guard with the round.
func TestMakeTight(t *testing.T) {
	fast := api.Setup{Bit: 1, Drift: 10000}
	made(t, fast, times(6, 1))                  // each tick more makes 0.96 of a tick more
	refuses(t, fast, times(7, 1), api.ErrTight) // 1.12 of a tick more
	refuses(t, fast, times(8, 1), api.ErrTight)
	almost := api.Setup{Bit: 1, Drift: 7812} // with 8 slots, 0.999936 of a tick more
	made(t, almost, times(8, 1))
	almost.Drift++ // 1.000064 of a tick more
	refuses(t, almost, times(8, 1), api.ErrTight)
	refuses(t, api.Setup{Bit: 1000000, Drift: 10000}, times(7, 100000), api.ErrTight)
	made(t, api.Setup{Bit: 1000000}, times(8, 100000)) // no drift, no matter how long the round is
}

// P16.3: the guard may be MaxGuard, and no more. The frame and Far are 11274289052 ticks; a hundredth of them and of twice MaxGuard is 134217727, of which 8 times and 8 is MaxGuard.
func TestMakeAtMaxGuard(t *testing.T) {
	s := api.Setup{Bit: 112742, Near: 89052, Far: 89052, Drift: 10000}
	if x := made(t, s, times(1, 100000)); x.Guard != api.MaxGuard {
		t.Errorf("Make(%+v) has the guard %d", s, x.Guard)
	}
	s.Far++
	refuses(t, s, times(1, 100000), api.ErrTight)
	s.Near++
	refuses(t, s, times(1, 100000), api.ErrTight)
}

// P16.4: of what Make answers, no tick may be one more or less, but the Round, where its skew stays.
func TestFitsByOneTick(t *testing.T) {
	for _, s := range []api.Setup{chapter, {Bit: 1}, {Bit: 1, Drift: 7000, Far: 3}} {
		for count := 3*s.Bad + 1; count <= api.MaxStations; count++ {
			bits := times(count, 100)
			x := made(t, s, bits)
			for _, by := range []int{-1, 1} {
				for place, tick := range ticksOf(&x) {
					*tick += by
					want := by == 1 && tick == &x.Round && skew(s, x.Round) <= x.Guard
					if Fits(s, bits, x) != want {
						t.Errorf("Fits(%+v, %v) with the tick %d changed by %d = %v", s, bits, place, by, !want)
					}
					*tick -= by
				}
			}
		}
	}
}

// P16.4: a table need not be as narrow as Make's.
func TestFitsOfWide(t *testing.T) {
	s, bits := api.Setup{Bit: 10, Near: 2, Far: 5}, []int{1, 2}
	wide := api.Table{Guard: 21, Round: 1 << 40, Slots: []api.Slot{{Open: 3, Send: 30, Shut: 70}, {Open: 1000, Send: 1021, Shut: 1 << 40}}}
	if !Fits(s, bits, wide) {
		t.Error("a wide table")
	}
	wide.Round++
	if Fits(s, bits, wide) {
		t.Error("a round above 2^40")
	}
	wide.Round--
	wide.Slots[1].Shut++
	if Fits(s, bits, wide) {
		t.Error("a slot that ends behind the round")
	}
	guarded := api.Table{Guard: 2 * api.MaxGuard, Round: 1 << 40, Slots: []api.Slot{{Open: 0, Send: 2 * api.MaxGuard, Shut: 1 << 40}}}
	if !Fits(s, []int{1}, guarded) {
		t.Error("a guard above MaxGuard")
	}
}

// P16.4: the guard is held against the skew of the Round that is told, not of that of the last Shut.
func TestFitsOfLongRound(t *testing.T) {
	bits := times(4, 100)
	x := made(t, chapter, bits) // a guard of 28 does for 10000 ticks
	x.Round = 10000
	if !Fits(chapter, bits, x) {
		t.Error("a round of 10000")
	}
	x.Round++
	if Fits(chapter, bits, x) {
		t.Error("a round of 10001")
	}
}

// P16.4: as many slots as numbers.
func TestFitsOfSlotsAndNumbers(t *testing.T) {
	still := api.Setup{Bit: 1, Bad: 1}
	five := times(5, 1)
	x := made(t, still, five)
	for _, bits := range [][]int{nil, times(1, 1), times(4, 1), times(6, 1), times(9, 1), {1, 1, 1, 1, 0}, {-1, 1, 1, 1, 1}, {1, 1, 1, 1, 2}, {1, 1, 1, 1, 100001}} {
		if Fits(still, bits, x) {
			t.Errorf("Fits with the numbers %v", bits)
		}
	}
	short, long := x, x
	short.Slots = x.Slots[:4]
	long.Slots = append(slices.Clone(x.Slots), api.Slot{Open: x.Round, Send: x.Round + 8, Shut: x.Round + 17})
	long.Round += 17
	if Fits(still, five, short) || Fits(still, five, long) || !Fits(still, times(4, 1), short) || !Fits(still, times(6, 1), long) {
		t.Error("too few slots, or too many")
	}
	three := api.Table{Guard: x.Guard, Round: x.Round, Slots: x.Slots[:3]}
	if Fits(still, times(3, 1), three) || !Fits(api.Setup{Bit: 1}, times(3, 1), three) {
		t.Error("3 times Bad")
	}
	nine := laid(api.Setup{Bit: 1}, times(9, 1), 8)
	if Fits(api.Setup{Bit: 1}, times(9, 1), nine) || !Fits(api.Setup{Bit: 1}, times(8, 1), laid(api.Setup{Bit: 1}, times(8, 1), 8)) {
		t.Error("more slots than stations")
	}
	if Fits(api.Setup{Bit: 1}, nil, api.Table{Guard: 8}) || Fits(api.Setup{Bit: 1}, []int{}, api.Table{Guard: 8, Slots: []api.Slot{}}) {
		t.Error("no slots")
	}
	wide := api.Table{Guard: 1 << 20, Round: 1 << 30, Slots: []api.Slot{{Open: 0, Send: 1 << 21, Shut: 1 << 29}}}
	for n, want := range map[int]bool{0: false, 1: true, 100000: true, 100001: false} {
		if Fits(api.Setup{Bit: 1}, []int{n}, wide) != want {
			t.Errorf("Fits of a frame of %d bits = %v", n, !want)
		}
	}
}

// P16.4
func TestFitsOfNoSetup(t *testing.T) {
	x := api.Table{Guard: 1 << 20, Round: 1 << 30, Slots: []api.Slot{{Open: 0, Send: 1 << 21, Shut: 1 << 29}}}
	for _, s := range notBe {
		if Fits(s, []int{1}, x) {
			t.Errorf("Fits of the setup %+v", s)
		}
	}
}

// R1, P16.4: ticks that may not be, also such as would make sums go round.
func TestFitsOfOddTicks(t *testing.T) {
	odd := []int{-1, math.MinInt, math.MinInt + 1, 1 << 50, 1<<50 + 1, math.MaxInt, math.MaxInt - 1, math.MaxInt - 28}
	s, bits := chapter, times(4, 100)
	x := made(t, s, bits)
	for place, tick := range ticksOf(&x) {
		for _, other := range ticksOf(&x) {
			was, wasOther := *tick, *other
			for _, n := range odd {
				for _, m := range odd {
					*tick, *other = n, m
					if Fits(s, bits, x) {
						t.Errorf("Fits with the tick %d at %d: %+v", place, n, x)
					}
				}
			}
			*tick, *other = was, wasOther
		}
	}
	for _, n := range odd {
		if Fits(s, bits, api.Table{Guard: n, Round: n, Slots: []api.Slot{{Open: n, Send: n, Shut: n}, {Open: n, Send: n, Shut: n}, {Open: n, Send: n, Shut: n}, {Open: n, Send: n, Shut: n}}}) {
			t.Errorf("Fits with all ticks at %d", n)
		}
	}
}

// R1: nothing panics, whatever it is.
func TestOdd(t *testing.T) {
	odd := []int{math.MinInt, -1, 0, 1, 2, 3, 100000, 1000000, 1 << 50, math.MaxInt}
	next := chance(7)
	pick := func() int { return odd[next(len(odd))] }
	for range 20000 {
		s := api.Setup{Bit: pick(), Near: pick(), Far: pick(), Drift: pick(), Bad: pick()}
		bits := times(next(10), pick())
		x := api.Table{Guard: pick(), Round: pick()}
		for range next(10) {
			x.Slots = append(x.Slots, api.Slot{Open: pick(), Send: pick(), Shut: pick()})
		}
		Check(s)
		Skew(s, pick())
		Make(s, bits)
		Fits(s, bits, x)
	}
}

// R4: what is handed in stays, spare room too.
func TestArgumentsStay(t *testing.T) {
	room := []int{100, 100, 100, 100, 77, 78}
	x := made(t, chapter, room[:4])
	slots := append(slices.Clone(x.Slots), api.Slot{Open: 77}, api.Slot{Send: 78})
	held := slices.Clone(slots)
	if !Fits(chapter, room[:4], api.Table{Slots: slots[:4], Round: x.Round, Guard: x.Guard}) || Fits(chapter, room[:5], api.Table{Slots: slots[:5]}) {
		t.Error("Fits")
	}
	refuses(t, chapter, room[:3], api.ErrArg)
	if !slices.Equal(room, []int{100, 100, 100, 100, 77, 78}) || !slices.Equal(slots, held) {
		t.Error("an argument was changed:", room, slots)
	}
}

// R4, R5: answers are memory of their own, and nothing is kept.
func TestAnswersAreNew(t *testing.T) {
	bits := times(4, 100)
	x := made(t, chapter, bits)
	held := slices.Clone(x.Slots)
	clear(bits)
	y := made(t, chapter, times(4, 100))
	if !slices.Equal(x.Slots, held) {
		t.Error("an answer hangs on what was handed in")
	}
	clear(x.Slots[:cap(x.Slots)])
	if !slices.Equal(y.Slots, held) {
		t.Error("two answers share memory")
	}
	refuses(t, chapter, bits, api.ErrArg)
	if z := made(t, chapter, times(4, 100)); !slices.Equal(z.Slots, held) {
		t.Error("a later answer hangs on an earlier one")
	}
}

// R5: many ask at once.
func TestAtOnce(t *testing.T) {
	var all sync.WaitGroup
	for count := range 8 {
		all.Go(func() {
			s, bits := api.Setup{Bit: 1 + count, Drift: 5000}, times(1+count, 100)
			want := laid(s, bits, made(t, s, bits).Guard)
			for range 100 {
				if x, e := Make(s, bits); e != api.OK || !reflect.DeepEqual(x, want) || !Fits(s, bits, x) || Skew(s, x.Round) != x.Guard {
					t.Error("at once:", x, e)
				}
			}
		})
	}
	all.Wait()
}
