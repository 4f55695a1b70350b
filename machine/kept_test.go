package machine

import (
	"fmt"
	"slices"
	"sync"
	"testing"
	"unsafe"

	"belfry/api"
)

// spare tells a list with room behind it, in which something stands.
func spare[T any](l []T, behind T) []T {
	l = append(slices.Clone(l), behind, behind)
	return l[:len(l)-2]
}

// all tells a list with its spare room.
func all[T any](l []T) []T { return l[:len(l)+2] }

// roomy tells a station with spare room behind each of its lists.
func roomy(s api.Station) api.Station {
	s.Places, s.Ins, s.Jobs, s.Sends = spare(s.Places, number("behind", 3)), spare(s.Ins, 3), spare(s.Jobs, api.Job{Place: 1}), spare(s.Sends, 2)
	for i, j := range s.Jobs {
		s.Jobs[i].Code = spare(j.Code, api.Instr{Op: api.ExNeg})
	}
	return s
}

// wholly tells a station with all that stands in spare room.
func wholly(s api.Station) string {
	s.Places, s.Ins, s.Jobs, s.Sends = all(s.Places), all(s.Ins), slices.Clone(all(s.Jobs)), all(s.Sends)
	for i, j := range s.Jobs[:len(s.Jobs)-2] {
		s.Jobs[i].Code = all(j.Code)
	}
	return fmt.Sprintf("%+v", s)
}

// R4: what is handed in stays as it was after each call, spare room too, which says nothing.
func TestArgumentsStay(t *testing.T) {
	next := chance(21)
	fine := 0
	for i := range 300 {
		s := stationOf(next, next(7))
		if i%3 == 0 {
			s = changed(next, s)
		}
		room := roomy(s)
		before := wholly(room)
		one, e := New(s)
		two, f := New(room)
		if e != f || (two == nil) != (one == nil) {
			t.Errorf("spare room of %s counts: %d, %d", before, e, f)
		}
		for range 5 {
			if e != api.OK {
				break
			}
			fine++
			ins, came := handed(next, s)
			wideIns, wideCame := spare(ins, 1), spare(came, 1)
			want, _ := one.Step(ins, came)
			sends(t, two, wideIns, wideCame, want...)
			refuses(t, two, all(wideIns), wideCame, api.ErrArg)
			refuses(t, two, wideIns, all(wideCame), api.ErrArg)
			if !slices.Equal(all(wideIns), append(ins, 1, 1)) || !slices.Equal(all(wideCame), append(came, 1, 1)) {
				t.Error(ins, came, all(wideIns), all(wideCame))
			}
		}
		if after := wholly(room); after != before {
			t.Errorf("%s became %s", before, after)
		}
	}
	if fine < 500 {
		t.Error(fine)
	}
}

// R4: a machine goes on as it was when what was handed in is changed then, the bytes of its names too.
func TestNothingHeld(t *testing.T) {
	next := chance(22)
	for range 200 {
		s := stationOf(next, 1+next(7))
		bytes := []byte("name")
		s.Places[0].Name = unsafe.String(&bytes[0], len(bytes))
		kept := copied(s)
		m, e := New(s)
		if e != api.OK {
			continue
		}
		copy(bytes, "p1p1")
		w := teller{s: kept}
		for _, j := range s.Jobs {
			clear(j.Code)
		}
		clear(s.Places)
		clear(s.Ins)
		clear(s.Jobs)
		clear(s.Sends)
		for range 4 {
			ins, came := handed(next, kept)
			want := w.step(ins, came)
			sends(t, m, ins, came, want...)
			clear(ins)
			clear(came)
			hasAll(t, m, &w)
		}
	}
}

// R4: an answer that is changed, its spare room too, changes no other answer, nor what the machine has.
func TestAnswersAreNew(t *testing.T) {
	s := whole(t)
	s.Sends = []int{5, 3, 2, 0}
	m, w := made(t, s), teller{s: s}
	next := chance(23)
	var answers, wants [][]int64
	for range 10 {
		ins, came := handed(next, s)
		want := w.step(ins, came)
		sent, e := m.Step(ins, came)
		if !slices.Equal(sent, want) || e != api.OK {
			t.Error(sent, e, want)
		}
		answers, wants = append(answers, sent), append(wants, slices.Clone(want))
		if len(answers)%3 == 0 {
			wants[len(wants)-1] = []int64{77, 77, 77, 77}
			sent = sent[:cap(sent)]
			for i := range sent {
				sent[i] = 77
			}
		}
		hasAll(t, m, &w)
	}
	for i, want := range wants {
		if !slices.Equal(answers[i], want) {
			t.Error(i, answers[i], want)
		}
	}
}

// R5: two machines of one station share nothing.
func TestTwo(t *testing.T) {
	s := whole(t)
	one, two := made(t, s), made(t, s)
	a, b := teller{s: s}, teller{s: s}
	next := chance(24)
	for round := range 30 {
		ins, came := handed(next, s)
		sends(t, one, ins, came, a.step(ins, came)...)
		if round%3 == 1 {
			ins, came = handed(next, s)
			sends(t, two, ins, came, b.step(ins, came)...)
		}
		hasAll(t, one, &a)
		hasAll(t, two, &b)
	}
	if three := made(t, s); one.Round() != 30 || two.Round() != 10 || three.Round() != 0 {
		t.Error(one.Round(), two.Round(), three.Round())
	}
}

// R5: machines of one station do not disturb each other when they run at the same time.
func TestAtOnce(t *testing.T) {
	s := whole(t)
	var group sync.WaitGroup
	for seed := range uint64(8) {
		group.Go(func() {
			next := chance(seed)
			m, w := made(t, s), teller{s: s}
			for range 100 {
				ins, came := handed(next, s)
				sends(t, m, ins, came, w.step(ins, came)...)
			}
			hasAll(t, m, &w)
		})
	}
	group.Wait()
}
