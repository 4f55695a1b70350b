package slots

import (
	"math/big"
	"testing"

	"belfry/api"
)

// chance tells numbers that look like chance and are the same in each run.
func chance(seed uint64) func(below int) int {
	return func(below int) int {
		seed = seed*6364136223846793005 + 1442695040888963407
		return int(seed >> 33 % uint64(below))
	}
}

// skew tells the skew of a setup and a round that may be, in the chapter's words.
func skew(s api.Setup, round int) int {
	parts := s.Drift * round / 1000000
	if s.Drift*round%1000000 > 0 {
		parts++
	}
	return 4*(s.Far-s.Near) + 8 + 8*parts
}

// laid tells the table that a guard makes, in the chapter's words.
func laid(s api.Setup, bits []int, guard int) api.Table {
	x := api.Table{Guard: guard}
	for _, n := range bits {
		slot := api.Slot{Open: x.Round}
		slot.Send = slot.Open + guard
		slot.Shut = slot.Send + s.Bit*n + s.Far + guard
		x.Slots = append(x.Slots, slot)
		x.Round = slot.Shut
	}
	return x
}

// ticksOf tells where a table's ticks stand: its Guard, its Round, and those of its slots.
func ticksOf(x *api.Table) []*int {
	l := []*int{&x.Guard, &x.Round}
	for place := range x.Slots {
		slot := &x.Slots[place]
		l = append(l, &slot.Open, &slot.Send, &slot.Shut)
	}
	return l
}

// atLeast tells whether a number is at least the sum of others, however great they are.
func atLeast(n int, others ...int) bool {
	sum := big.NewInt(0)
	for _, other := range others {
		sum.Add(sum, big.NewInt(int64(other)))
	}
	return big.NewInt(int64(n)).Cmp(sum) >= 0
}

// fits tells what Fits answers of a setup that may be and as many slots as numbers, in the chapter's words.
func fits(s api.Setup, bits []int, x api.Table) bool {
	for _, tick := range ticksOf(&x) {
		if *tick < 0 || *tick > 1<<50 {
			return false
		}
	}
	if x.Round > 1<<40 || x.Guard < skew(s, x.Round) {
		return false
	}
	for place, slot := range x.Slots {
		if !atLeast(slot.Send, slot.Open, x.Guard) || !atLeast(slot.Shut, slot.Send, bits[place]*s.Bit, s.Far, x.Guard) {
			return false
		}
		if place > 0 && slot.Open < x.Slots[place-1].Shut {
			return false
		}
	}
	return x.Round >= x.Slots[len(x.Slots)-1].Shut
}

// setupByChance tells a setup that may be, with numbers of bits for it.
func setupByChance(next func(int) int) (api.Setup, []int) {
	far := next(1 + next(300))
	s := api.Setup{Bit: 1 + next(30), Far: far, Near: far - next(far+1), Drift: next(1 + next(10001)), Bad: next(3)}
	bits := make([]int, 3*s.Bad+1+next(api.MaxStations-3*s.Bad))
	for place := range bits {
		bits[place] = 1 + next(1+next(2000))
	}
	return s, bits
}

// P16.3: no lesser guard is at least the skew of the round that it makes.
func TestLeastGuard(t *testing.T) {
	next := chance(1)
	told, tight := 0, 0
	for range 3000 {
		s, bits := setupByChance(next)
		x, e := Make(s, bits)
		if e == api.OK {
			x = made(t, s, bits)
			told++
		} else {
			tight++
		}
		length := laid(s, bits, 0).Round
		for guard := range min(x.Guard, 20000) {
			if guard >= skew(s, length+2*guard*len(bits)) {
				t.Fatalf("Make(%+v, %v) = %+v, %d, but %d would do", s, bits, x, e, guard)
			}
		}
	}
	if told < 1000 || tight < 20 {
		t.Error("too few of a kind:", told, tight)
	}
}

// P16.3: where Make tells ErrTight, no guard of at most MaxGuard would do. (A guard that does is 8 times something and 4 times e.)
func TestTight(t *testing.T) {
	for _, c := range []struct {
		s    api.Setup
		bits []int
	}{
		{api.Setup{Bit: 1, Drift: 10000}, times(7, 1)},
		{api.Setup{Bit: 1, Drift: 7813}, times(8, 1)},
		{api.Setup{Bit: 1, Near: 3, Far: 8, Drift: 8929}, times(7, 100)},
		{api.Setup{Bit: 112742, Near: 89053, Far: 89053, Drift: 10000}, times(1, 100000)},
	} {
		refuses(t, c.s, c.bits, api.ErrTight)
		length := laid(c.s, c.bits, 0).Round
		for guard := 4 * (c.s.Far - c.s.Near) % 8; guard <= api.MaxGuard; guard += 8 {
			if guard >= skew(c.s, length+2*guard*len(c.bits)) {
				t.Fatalf("Make(%+v, %v) tells none, but %d would do", c.s, c.bits, guard)
			}
		}
	}
}

// P16.4, P16.5: tables that Make answers fit; spoilt by a little, they fit as the chapter's words have it.
func TestFitsOfMany(t *testing.T) {
	next := chance(2)
	yes, no := 0, 0
	for range 20000 {
		s, bits := setupByChance(next)
		x, e := Make(s, bits)
		if e != api.OK {
			continue
		}
		widened(next, &x)
		ticks := ticksOf(&x)
		for range next(3) {
			*ticks[next(len(ticks))] += next(5) - 2
		}
		want := fits(s, bits, x)
		if Fits(s, bits, x) != want {
			t.Fatalf("Fits(%+v, %v, %+v) = %v", s, bits, x, !want)
		}
		if want {
			yes++
		} else {
			no++
		}
	}
	if yes < 3000 || no < 3000 {
		t.Error("too few of a kind:", yes, no)
	}
}

// widened moves some ticks, and all behind them, by a little.
func widened(next func(int) int, x *api.Table) {
	later := 0
	for place := range x.Slots {
		slot := &x.Slots[place]
		for _, tick := range []*int{&slot.Open, &slot.Send, &slot.Shut} {
			later += next(3) * next(2)
			*tick += later
		}
	}
	x.Round += later + next(3)
}

// frame is when a frame begins to come and when it has come, as some clock shows it.
type frame struct{ from, by int }

// came tells how a frame of a slot comes, sent by a clock that is ahead by so much of the one that shows it, and taking so many ticks.
func came(s api.Setup, slot api.Slot, bits, ahead, taking int) frame {
	from := slot.Send - ahead + taking
	return frame{from: from, by: from + s.Bit*bits}
}

// P16.5: each frame comes within its slot, and no two frames meet, in this round and the next one.
func TestNoFramesMeet(t *testing.T) {
	next := chance(3)
	for range 2000 {
		s, bits := setupByChance(next)
		x, e := Make(s, bits)
		if e != api.OK {
			continue
		}
		widened(next, &x)
		if !Fits(s, bits, x) {
			continue
		}
		for range 10 {
			var frames []frame
			for place := range 2 * len(bits) {
				slot, n := x.Slots[place%len(bits)], bits[place%len(bits)]
				f := came(s, slot, n, someOf(next, -x.Guard, x.Guard), someOf(next, s.Near, s.Far))
				if f.from < slot.Open || f.by > slot.Shut {
					t.Fatalf("%+v, %v, %+v: the frame %d comes from %d to %d", s, bits, x, place, f.from, f.by)
				}
				round := place / len(bits) * x.Round
				frames = append(frames, frame{from: f.from + round, by: f.by + round})
			}
			for place := 1; place < len(frames); place++ {
				if frames[place].from < frames[place-1].by {
					t.Fatalf("%+v, %v, %+v: frames %v meet", s, bits, x, frames)
				}
			}
		}
	}
}

// someOf tells a number from least to most, often one of these two.
func someOf(next func(int) int, least, most int) int {
	switch next(3) {
	case 0:
		return least
	case 1:
		return most
	}
	return least + next(most-least+1)
}
