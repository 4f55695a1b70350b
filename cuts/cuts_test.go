package cuts

import (
	"fmt"
	"math"
	"slices"
	"strings"
	"sync"
	"testing"
	"unsafe"

	"belfry/api"
	"belfry/late"
	"belfry/names"
	"belfry/progs"
)

// read tells a program of so many stations; its lines are as the chapters write them: "x at 1", which comes from without, "s at 1 = 0 -> pre s + x"; where need be with a type and a default: "b: bool at 2", "v: bool at 1 default true = b".
func read(t *testing.T, stations int, lines ...string) api.Prog {
	t.Helper()
	text := fmt.Sprint("stations ", stations, ";")
	for _, line := range lines {
		head, body, worked := strings.Cut(line, " = ")
		if !strings.Contains(head, ": ") {
			head = strings.Replace(head, " at ", ": int at ", 1)
		}
		if worked && !strings.Contains(head, " default ") {
			head += " default 0"
		}
		if worked {
			text += " flow " + head + " = " + body + ";"
		} else {
			text += " in " + head + ";"
		}
	}
	p, at, e := progs.Parse(text)
	if e != api.OK {
		t.Fatalf("%q: %d at %d", text, e, at)
	}
	return p
}

// known is the P of chapter 14; its flows may be 0, 1, 2 late.
func known(t *testing.T) api.Prog {
	t.Helper()
	return read(t, 2, "x at 1", "s at 1 = 0 -> pre s + x", "t at 2 = s", "u at 1 = t + x")
}

// shown tells something, but not all of it.
func shown(x any) string { return fmt.Sprintf("%.400s", fmt.Sprint(x)) }

// sends and needs hold what is answered against names with a blank between each two.
func sends(t *testing.T, p api.Prog, station int, want string) {
	t.Helper()
	if l := Sends(p, station); !slices.Equal(l, strings.Fields(want)) {
		t.Errorf("Sends(%s, %d) = %s, want %s", shown(p), station, shown(l), want)
	}
}

func needs(t *testing.T, p api.Prog, station int, want string) {
	t.Helper()
	if l := Needs(p, station); !slices.Equal(l, strings.Fields(want)) {
		t.Errorf("Needs(%s, %d) = %s, want %s", shown(p), station, shown(l), want)
	}
}

// has asks Places for a list.
func has(t *testing.T, p api.Prog, l []int, station int, want ...api.Place) {
	t.Helper()
	if places, e := Places(p, l, station); !slices.Equal(places, want) || e != api.OK {
		t.Errorf("Places(%s, %s, %d) = %s, %d, want %s", shown(p), shown(l), station, shown(places), e, shown(want))
	}
}

// refuses asks Places for an error, and nothing beside it.
func refuses(t *testing.T, p api.Prog, l []int, station int, want api.Errno) {
	t.Helper()
	if places, e := Places(p, l, station); len(places) != 0 || e != want {
		t.Errorf("Places(%s, %s, %d) = %s, %d, want %d", shown(p), shown(l), station, shown(places), e, want)
	}
}

// keeps asks Places how long a name is kept.
func keeps(t *testing.T, p api.Prog, l []int, station int, name string, want int) {
	t.Helper()
	places, e := Places(p, l, station)
	i := slices.IndexFunc(places, func(place api.Place) bool { return place.Name == name })
	if e != api.OK || i < 0 || places[i].Keep != want {
		t.Errorf("Places(%s, %s, %d) = %s, %d, want that %s keeps %d", shown(p), shown(l), station, shown(places), e, name, want)
	}
}

// own and far tell places of numbers.
func own(name string, keep int) api.Place {
	return api.Place{Name: name, Type: api.TyInt, Keep: keep}
}

func far(name string, keep, from int, instead int64) api.Place {
	return api.Place{Name: name, Type: api.TyInt, Keep: keep, Far: true, From: from, Default: instead}
}

// yesNo tells a place of yes and no instead.
func yesNo(place api.Place) api.Place {
	place.Type = api.TyBool
	return place
}

// least tells how late flows are, if they are as little late as they may.
func least(t *testing.T, p api.Prog) []int {
	t.Helper()
	l, e := late.Of(p)
	if e != api.OK {
		t.Fatalf("late.Of(%s): %d", shown(p), e)
	}
	return l
}

// P15.1, P15.2: the chapter's examples.
func TestExamples(t *testing.T) {
	p := known(t)
	sends(t, p, 1, "s")
	sends(t, p, 2, "t")
	needs(t, p, 1, "t")
	needs(t, p, 2, "s")
	needs(t, p, 3, "")
	sends(t, p, 3, "")
	has(t, p, least(t, p), 1, own("x", 2), own("s", 1), own("u", 0), far("t", 0, 2, 0))
	has(t, p, []int{0, 1, 2}, 2, own("t", 0), far("s", 0, 1, 0))
}

// P15.1, P15.2: stations below 1, at Stations, above it; a station of which there is nothing.
func TestStations(t *testing.T) {
	for _, stations := range []int{2, 3, api.MaxStations} {
		p := known(t)
		p.Stations = stations
		for _, station := range []int{math.MinInt, -1 << 32, -257, -8, -2, -1, 0, stations + 1, stations + 2, 9, 257, 1<<32 + 1, math.MaxInt} {
			sends(t, p, station, "")
			needs(t, p, station, "")
			refuses(t, p, []int{0, 1, 2}, station, api.ErrArg)
		}
		for station := 3; station <= stations; station++ {
			sends(t, p, station, "")
			needs(t, p, station, "")
			has(t, p, []int{0, 1, 2}, station)
		}
	}
	p := read(t, 8, "x at 1", "f at 8 default 5 = x", "g at 1 = f")
	sends(t, p, 8, "f")
	needs(t, p, 8, "x")
	has(t, p, []int{1, 2}, 8, own("f", 0), far("x", 0, 1, 0))
	has(t, p, []int{1, 2}, 1, own("x", 0), own("g", 0), far("f", 0, 8, 5))
}

// P15.1, P15.2: nothing at all; no flows; no Ins.
func TestNothing(t *testing.T) {
	for _, p := range []api.Prog{{Stations: 1}, {Stations: 8, Ins: []api.In{}, Flows: []api.Flow{}, Outs: []string{}}} {
		for _, l := range [][]int{nil, {}, make([]int, 0, 5)} {
			has(t, p, l, 1)
			has(t, p, l, p.Stations)
			refuses(t, p, l, p.Stations+1, api.ErrArg)
		}
		refuses(t, p, []int{0}, 1, api.ErrTight)
		sends(t, p, 1, "")
		needs(t, p, 1, "")
	}
	p := read(t, 3, "a at 3", "b: bool at 1", "c at 3")
	p.Outs = []string{"c"}
	has(t, p, nil, 1, yesNo(own("b", 0)))
	has(t, p, nil, 2)
	has(t, p, nil, 3, own("a", 0), own("c", 0))
	refuses(t, p, []int{0, 0, 0}, 3, api.ErrTight)
	for station := range 5 {
		sends(t, p, station, "")
		needs(t, p, station, "")
	}
	p = read(t, 2, "f at 1 default 4 = 7", "g at 2 default 5 = pre f", "h at 2 = g")
	sends(t, p, 1, "f")
	sends(t, p, 2, "")
	needs(t, p, 1, "")
	needs(t, p, 2, "f")
	has(t, p, []int{0, 0, 0}, 1, own("f", 0))
	has(t, p, []int{0, 0, 0}, 2, own("g", 0), own("h", 0), far("f", 0, 1, 4))
}

// P15.1, P15.2: flows at one station alone, in a program of one station and of several; what is asked for there is not sent.
func TestOneStation(t *testing.T) {
	for _, stations := range []int{1, 2, 5} {
		p := read(t, stations, "x at 1", "f at 1 = x + pre x", "g at 1 = f + pre pre g", "h at 1 = 3")
		for station := 1; station <= stations; station++ {
			sends(t, p, station, "")
			needs(t, p, station, "")
		}
		has(t, p, []int{0, 0, 0}, 1, own("x", 1), own("f", 0), own("g", 2), own("h", 0))
		has(t, p, []int{5, 9, 7}, 1, own("x", 6), own("f", 4), own("g", 2), own("h", 0))
	}
	p := read(t, 4, "x at 2", "y at 3", "z at 3", "f at 4 = x + y", "g at 4 = y + f")
	sends(t, p, 1, "")
	sends(t, p, 2, "x")
	sends(t, p, 3, "y")
	sends(t, p, 4, "")
	needs(t, p, 4, "x y")
	has(t, p, []int{1, 1}, 4, own("f", 0), own("g", 0), far("x", 0, 2, 0), far("y", 0, 3, 0))
	has(t, p, []int{1, 1}, 3, own("y", 0), own("z", 0))
	has(t, p, []int{1, 1}, 1)
}

// P15.1: a name that several stations ask for, that one asks for twice, that one flow asks for at several Agos: it is told once each.
func TestAskedOften(t *testing.T) {
	p := read(t, 4, "x at 1", "a at 1 = x", "b at 2 = a + x + a", "c at 2 = pre a", "d at 3 = a + pre a + pre pre x", "e at 1 = a")
	sends(t, p, 1, "x a")
	needs(t, p, 1, "")
	for _, station := range []int{2, 3} {
		sends(t, p, station, "")
		needs(t, p, station, "x a")
	}
	sends(t, p, 4, "")
	needs(t, p, 4, "")
	l := []int{0, 1, 0, 1, 0}
	has(t, p, l, 1, own("x", 0), own("a", 0), own("e", 0))
	has(t, p, l, 2, own("b", 0), own("c", 0), far("x", 0, 1, 0), far("a", 0, 1, 0))
	has(t, p, l, 3, own("d", 0), far("x", 2, 1, 0), far("a", 1, 1, 0))
}

// P15.1: what only its own station asks for, itself among it, is not sent; nor is what only an out asks for, or nobody.
func TestNotSent(t *testing.T) {
	p := read(t, 3, "x at 1", "y at 1", "f at 1 = x + pre f", "g at 1 = f", "h at 2 = y", "k at 3 = 1", "m at 2 = 0 -> pre m")
	p.Outs = []string{"g", "x", "k"}
	sends(t, p, 1, "y")
	sends(t, p, 2, "")
	sends(t, p, 3, "")
	needs(t, p, 1, "")
	needs(t, p, 2, "y")
	needs(t, p, 3, "")
	p.Flows = append(p.Flows, read(t, 3, "n at 3 = m + pre g").Flows...)
	sends(t, p, 1, "y g")
	sends(t, p, 2, "m")
	needs(t, p, 3, "g m")
}

// P15.1: Sends has Ins, then Flows, as they are declared, whatever their names are and in whatever order they are asked for.
func TestOrderOfSends(t *testing.T) {
	p := read(t, 3, "f at 1 = 1", "z at 1", "e at 2 = f + pre z", "d at 1 = 2", "a at 1", "q at 2", "c at 1 = 3", "m at 1", "b at 2 = m + (c + a) + d + z")
	sends(t, p, 1, "z a m f d c")
	needs(t, p, 2, "z a m f d c")
	has(t, p, []int{0, 1, 0, 0, 1}, 2, own("q", 0), own("e", 0), own("b", 0), far("z", 1, 1, 0), far("a", 0, 1, 0), far("m", 0, 1, 0), far("f", 0, 1, 0), far("d", 0, 1, 0), far("c", 0, 1, 0))
	slices.Reverse(p.Ins)
	slices.Reverse(p.Flows)
	sends(t, p, 1, "m a z c d f")
	needs(t, p, 2, "m a z c d f")
}

// P15.1: Needs has them by their stations, from 1 on, and within one as Sends has them, where they are declared in another order.
func TestOrderOfNeeds(t *testing.T) {
	p := read(t, 8, "i at 8", "j at 3", "k at 1", "f8 at 8 default 8 = i", "f3 at 3 default 3 = j", "g at 5 = f3 + f8 + i + f1 + j + k + h3 + f2", "f1 at 1 default 1 = k", "f2 at 2 default 2 = 1", "h3 at 3 default 33 = 1", "f5 at 5 = 5", "e at 4 = f5")
	needs(t, p, 5, "k f1 f2 j f3 h3 i f8")
	needs(t, p, 4, "f5")
	sends(t, p, 1, "k f1")
	sends(t, p, 2, "f2")
	sends(t, p, 3, "j f3 h3")
	sends(t, p, 8, "i f8")
	sends(t, p, 5, "f5")
	l := []int{0, 0, 1, 0, 0, 0, 0, 1}
	has(t, p, l, 5, own("g", 0), own("f5", 0), far("k", 0, 1, 0), far("f1", 0, 1, 1), far("f2", 0, 2, 2), far("j", 0, 3, 0), far("f3", 0, 3, 3), far("h3", 0, 3, 33), far("i", 0, 8, 0), far("f8", 0, 8, 8))
	needs(t, p, 1, "")
}

// P15.2: one place for each In, each Flow and each of its Needs, in that order; all fields of each; a Default only where it is far, of an In 0.
func TestPlaces(t *testing.T) {
	p := read(t, 3,
		"f: bool at 1 default true = b", "x at 1", "g at 2 default -5 = x + pre pre n", "b: bool at 2", "h at 1 default 77 = g + (if pre f then 1 else n)",
		"n at 3", "k: bool at 3 default true = f and b", "m at 1 default 9223372036854775807 = pre h", "w at 3 default -9223372036854775807 = if k then m else w", "v at 2 = w + m")
	l := []int{1, 1, 2, 2, 1, 2, 3} // as little as they may
	sends(t, p, 1, "x f m")
	sends(t, p, 2, "b g")
	sends(t, p, 3, "n w")
	has(t, p, l, 1, own("x", 0), yesNo(own("f", 2)), own("h", 0), own("m", 0), yesNo(far("b", 0, 2, 0)), far("g", 0, 2, -5), far("n", 1, 3, 0))
	has(t, p, l, 2, yesNo(own("b", 0)), own("g", 0), own("v", 0), far("x", 0, 1, 0), far("m", 1, 1, math.MaxInt64), far("n", 2, 3, 0), far("w", 0, 3, -math.MaxInt64))
	has(t, p, l, 3, own("n", 0), yesNo(own("k", 0)), own("w", 0), yesNo(far("f", 0, 1, 1)), far("m", 0, 1, math.MaxInt64), yesNo(far("b", 1, 2, 0)))
}

// P15.2: Keep is the greatest Age of a name that flows of the station ask for several times, at several Agos; whoever of them asks.
func TestKeepIsGreatest(t *testing.T) {
	for _, body := range []string{"a + pre a + pre pre pre a", "pre pre pre a + pre a + a", "pre a + pre (pre pre a + a)", "a + pre pre pre a"} {
		p := read(t, 2, "x at 1", "a at 1 = x", "f at 1 = "+body, "g at 2 = "+body)
		has(t, p, []int{0, 0, 1}, 1, own("x", 0), own("a", 3), own("f", 0))
		has(t, p, []int{0, 0, 1}, 2, own("g", 0), far("a", 3, 1, 0))
		keeps(t, p, []int{4, 9, 7}, 1, "x", 4)
		keeps(t, p, []int{4, 9, 7}, 1, "a", 8)
		keeps(t, p, []int{4, 9, 7}, 2, "a", 5)
	}
	// A flow that asks long ago, and one that is later and asks at once: sometimes the one, sometimes the other.
	p := read(t, 3, "x at 2", "f at 1 = pre pre pre x", "g at 1 = x", "h at 3 = pre pre pre pre pre pre x")
	for later, want := range []int{2, 2, 2, 3, 4} {
		keeps(t, p, []int{0, later + 1, 0}, 1, "x", max(want, later))
		keeps(t, p, []int{0, later + 1, 0}, 3, "x", 5)
		keeps(t, p, []int{0, later + 1, 0}, 2, "x", 0)
	}
	keeps(t, p, []int{7, 1, 0}, 1, "x", 9)
	slices.Reverse(p.Flows)
	keeps(t, p, []int{0, 1, 7}, 1, "x", 9)
	keeps(t, p, []int{0, 6, 0}, 1, "x", 5)
}

// P15.2: Keep is 0 of what nobody of the station asks for, though others ask for it long ago, and however late it is.
func TestKeepOfOthers(t *testing.T) {
	p := read(t, 2, "x at 1", "a at 1 = 1", "f at 2 = pre pre pre a + pre pre x", "b at 1 = 2")
	has(t, p, []int{0, 0, 0}, 1, own("x", 0), own("a", 0), own("b", 0))
	has(t, p, []int{2, 0, 1000}, 1, own("x", 0), own("a", 0), own("b", 0))
	has(t, p, []int{2, 0, 1000}, 2, own("f", 0), far("x", 1, 1, 0), far("a", 0, 1, 0))
	has(t, p, []int{0, 1000, 0}, 2, own("f", 0), far("x", 1001, 1, 0), far("a", 1002, 1, 0))
	has(t, p, []int{1000, 1000, 1000}, 2, own("f", 0), far("x", 1001, 1, 0), far("a", 2, 1, 0))
}

// P15.2: Keep where flows are later than they need to be, up to MaxLate.
func TestKeepOfLater(t *testing.T) {
	p := known(t)
	for _, c := range []struct {
		l                []int
		x, s, farT, farS int
	}{
		{[]int{0, 1, 2}, 2, 1, 0, 0}, {[]int{0, 1, 3}, 3, 1, 1, 0}, {[]int{0, 2, 3}, 3, 1, 0, 1}, {[]int{1, 2, 3}, 3, 1, 0, 0},
		{[]int{5, 9, 10}, 10, 1, 0, 3}, {[]int{9, 10, 11}, 11, 1, 0, 0}, {[]int{0, 1, 1000}, 1000, 1, 998, 0}, {[]int{0, 999, 1000}, 1000, 1, 0, 998}, {[]int{998, 999, 1000}, 1000, 1, 0, 0},
	} {
		has(t, p, c.l, 1, own("x", c.x), own("s", c.s), own("u", 0), far("t", c.farT, 2, 0))
		has(t, p, c.l, 2, own("t", 0), far("s", c.farS, 1, 0))
	}
	p = read(t, 1, "f at 1 = pre f")
	for _, rounds := range []int{0, 1, 500, api.MaxLate} {
		has(t, p, []int{rounds}, 1, own("f", 1))
	}
}

// P15.2: lists that are too short, too long, empty, with a number below 0 or above MaxLate, one too little at one place: ErrTight at each station that is there, else ErrArg.
func TestLists(t *testing.T) {
	p := known(t)
	for _, l := range [][]int{
		nil, {}, {0}, {0, 1}, {0, 1, 2, 3}, {0, 1, 2, 0}, make([]int, 500), make([]int, 1<<20),
		{-1, 1, 2}, {0, -1, 2}, {0, 1, -1}, {math.MinInt, 1, 2}, {0, 1, 1001}, {0, 1001, 1002}, {1001, 1002, 1003}, {0, 1, math.MaxInt}, {math.MaxInt, math.MinInt, 0}, {math.MaxInt, math.MaxInt, math.MaxInt},
		{0, 0, 2}, {0, 1, 1}, {1, 1, 2}, {1, 2, 2}, {0, 0, 0}, {999, 1000, 1000}, {2, 1, 0},
	} {
		refuses(t, p, l, 1, api.ErrTight)
		refuses(t, p, l, 2, api.ErrTight)
		for _, station := range []int{math.MinInt, -1, 0, 3, 8, math.MaxInt} {
			refuses(t, p, l, station, api.ErrArg)
		}
	}
	p.Stations = 3
	refuses(t, p, []int{0, 1, 1}, 3, api.ErrTight)
	has(t, p, []int{0, 1, 2}, 3)
	tight := read(t, 2, "s at 1 = t", "t at 2 = 0 -> pre s")
	for i := range 9 {
		for j := range 9 {
			refuses(t, tight, []int{i, j}, 1, api.ErrTight)
			refuses(t, tight, []int{i, j}, 2, api.ErrTight)
		}
	}
	sends(t, tight, 1, "s")
	needs(t, tight, 1, "t")
	sends(t, tight, 2, "t")
	needs(t, tight, 2, "s")
}

// P15.1, P15.2: what hangs on itself, is of wrong types or has no beginning is cut all the same: names.Check and late.Check alone are asked.
func TestWithoutMeaning(t *testing.T) {
	p := read(t, 2, "x at 1", "b: bool at 2 default 7 = x + b", "c at 1 = pre b + c", "d at 1 = e", "e at 1 = d")
	sends(t, p, 1, "x")
	sends(t, p, 2, "b")
	has(t, p, []int{1, 1, 0, 0}, 1, own("x", 0), own("c", 0), own("d", 0), own("e", 0), yesNo(far("b", 0, 2, 7)))
	has(t, p, []int{1, 1, 0, 0}, 2, yesNo(own("b", 0)), far("x", 0, 1, 0))
}

// P15.1, P15.2: names that differ in a letter's size, in their length or in their last letter alone are not taken for one another; names as long as they may be.
func TestLikeNames(t *testing.T) {
	long := strings.Repeat("n", api.MaxName-1)
	p := read(t, 2, "a at 1", "A at 1", "aa at 1", "a_ at 1", "a0 at 1", long+" at 1", long+"n at 1", long+"m at 1", "f at 2 = aa + pre "+long+"m", "g at 1 = pre A + pre pre "+long)
	sends(t, p, 1, "aa "+long+"m")
	needs(t, p, 2, "aa "+long+"m")
	has(t, p, []int{1, 0}, 1, own("a", 0), own("A", 1), own("aa", 0), own("a_", 0), own("a0", 0), own(long, 2), own(long+"n", 0), own(long+"m", 0), own("g", 0))
	has(t, p, []int{1, 0}, 2, own("f", 0), far("aa", 0, 1, 0), far(long+"m", 1, 1, 0))
}

// spoiled tells programs that names.Check refuses, with each of its errors; of each, how it comes of P.
func spoiled() map[string]func(p *api.Prog) api.Errno {
	name := func(s string) api.Expr { return api.Expr{Op: api.ExName, Name: s} }
	return map[string]func(p *api.Prog) api.Errno{
		"no stations":        func(p *api.Prog) api.Errno { p.Stations = 0; return api.ErrArg },
		"less than none":     func(p *api.Prog) api.Errno { p.Stations = math.MinInt; return api.ErrArg },
		"too many":           func(p *api.Prog) api.Errno { p.Stations = api.MaxStations + 1; return api.ErrArg },
		"far too many":       func(p *api.Prog) api.Errno { p.Stations = math.MaxInt; return api.ErrArg },
		"an In's station":    func(p *api.Prog) api.Errno { p.Ins[0].Station = 3; return api.ErrArg },
		"a flow's station":   func(p *api.Prog) api.Errno { p.Flows[1].Station = 0; return api.ErrArg },
		"a flow's type":      func(p *api.Prog) api.Errno { p.Flows[0].Type = 3; return api.ErrArg },
		"a flow's default":   func(p *api.Prog) api.Errno { p.Flows[0].Default = math.MinInt64; return api.ErrArg },
		"a flow's name":      func(p *api.Prog) api.Errno { p.Flows[2].Name = "pre"; return api.ErrArg },
		"a long name":        func(p *api.Prog) api.Errno { p.Ins[0].Name = strings.Repeat("n", 41); return api.ErrArg },
		"no name":            func(p *api.Prog) api.Errno { p.Ins[0].Name = ""; return api.ErrArg },
		"a Body":             func(p *api.Prog) api.Errno { p.Flows[2].Body = api.Expr{}; return api.ErrArg },
		"an out's name":      func(p *api.Prog) api.Errno { p.Outs = []string{"1"}; return api.ErrArg },
		"many flows":         func(p *api.Prog) api.Errno { p.Flows = make([]api.Flow, api.MaxFlows+1); return api.ErrArg },
		"two of one name":    func(p *api.Prog) api.Errno { p.Flows[2].Name = "t"; return api.ErrName },
		"an In's name again": func(p *api.Prog) api.Errno { p.Flows[2].Name = "x"; return api.ErrName },
		"not there":          func(p *api.Prog) api.Errno { p.Flows[2].Body = name("none"); return api.ErrName },
		"an out not there":   func(p *api.Prog) api.Errno { p.Outs = []string{"none"}; return api.ErrName },
		"an out twice":       func(p *api.Prog) api.Errno { p.Outs = []string{"u", "u"}; return api.ErrName },
		"both":               func(p *api.Prog) api.Errno { p.Outs, p.Ins[0].Type = []string{"u", "u"}, 0; return api.ErrArg },
	}
}

// P15.1, P15.2: a program that names.Check refuses: nothing is sent nor needed, and Places answers ErrArg, whatever the list is.
func TestRefused(t *testing.T) {
	for what, spoil := range spoiled() {
		p := known(t)
		want := spoil(&p)
		if e := names.Check(p); e != want {
			t.Fatal(what, e)
		}
		for _, station := range []int{-1, 0, 1, 2, 3, 9, math.MaxInt, math.MinInt} {
			sends(t, p, station, "")
			needs(t, p, station, "")
			for _, l := range [][]int{{0, 1, 2}, nil, {0, 1, 1}, {-1, 1, 2}, {0, 1, 2, 3}} {
				refuses(t, p, l, station, api.ErrArg)
			}
		}
	}
}

// R1: Bodies whose parts hold themselves, are very deep or very many, and names that are none, are refused, not gone into.
func TestOdd(t *testing.T) {
	one, name := api.Expr{Op: api.ExInt, N: 1}, api.Expr{Op: api.ExName, Name: "f"}
	round := api.Expr{Op: api.ExAdd, Args: []api.Expr{one, one}}
	round.Args[0] = round
	deep := name
	for range 1 << 15 {
		deep = api.Expr{Op: api.ExPre, Args: []api.Expr{deep}}
	}
	for _, body := range []api.Expr{round, deep, {Op: api.ExPre}, {Op: 77, Args: []api.Expr{name}}, {Op: api.ExName, Name: "f", Args: []api.Expr{name}}, {Op: api.ExAdd, Args: slices.Repeat([]api.Expr{name}, 1<<16)}} {
		p := api.Prog{Stations: 2, Flows: []api.Flow{{Name: "f", Type: api.TyInt, Station: 1, Body: body}}}
		sends(t, p, 1, "")
		needs(t, p, 2, "")
		refuses(t, p, []int{0}, 1, api.ErrArg)
	}
	for _, odd := range []string{"", "pre", "a b", "é", "\xff", "a\x00", "a\x00b", strings.Repeat("n", api.MaxName+1), strings.Repeat("n", 1<<16)} {
		p := api.Prog{Stations: 2, Flows: []api.Flow{{Name: odd, Type: api.TyInt, Station: 1, Body: api.Expr{Op: api.ExName, Name: odd}}, {Name: "f", Type: api.TyInt, Station: 2, Body: api.Expr{Op: api.ExName, Name: odd}}}}
		sends(t, p, 1, "")
		needs(t, p, 2, "")
		refuses(t, p, []int{0, 1}, 2, api.ErrArg)
	}
	sends(t, api.Prog{}, 0, "")
	needs(t, api.Prog{}, 1, "")
	refuses(t, api.Prog{}, nil, 0, api.ErrArg)
}

func copiedBody(x api.Expr) api.Expr {
	x.Args = slices.Clone(x.Args)
	for i, part := range x.Args {
		x.Args[i] = copiedBody(part)
	}
	return x
}

// copied tells the same in memory of its own.
func copied(p api.Prog) api.Prog {
	p.Ins, p.Flows, p.Outs = slices.Clone(p.Ins), slices.Clone(p.Flows), slices.Clone(p.Outs)
	for i, f := range p.Flows {
		p.Flows[i].Body = copiedBody(f.Body)
	}
	return p
}

// spare tells a list with room behind it, in which something stands.
func spare[T any](l []T, behind T) []T {
	l = append(slices.Clone(l), behind, behind)
	return l[:len(l)-2]
}

// R4: what is handed in stays as it was after each call, spare room too, which says nothing.
func TestArgumentsStay(t *testing.T) {
	sound, wrong := known(t), known(t)
	wrong.Outs = []string{"none"}
	for _, p := range []api.Prog{sound, wrong, read(t, 2, "s at 1 = t", "t at 2 = pre s"), {Stations: 3}} {
		behind := api.Flow{Name: "z", Type: api.TyInt, Station: 2, Body: api.Expr{Op: api.ExName, Name: "x"}}
		q := copied(p)
		q.Ins, q.Flows, q.Outs = spare(p.Ins, api.In{Name: "y", Type: api.TyInt, Station: 2}), spare(p.Flows, behind), spare(p.Outs, "q")
		whole := func() string {
			all := q
			all.Ins, all.Flows, all.Outs = q.Ins[:len(q.Ins)+2], q.Flows[:len(q.Flows)+2], q.Outs[:len(q.Outs)+2]
			return fmt.Sprint(all)
		}
		before := whole()
		for _, list := range [][]int{{0, 1, 2}, {0, 1, 1}, {0, 0}, {-5, 2000, 7}, nil} {
			l := spare(list, 77)
			for station := range 4 {
				sends(t, q, station, strings.Join(Sends(p, station), " "))
				needs(t, q, station, strings.Join(Needs(p, station), " "))
				want, e := Places(p, list, station)
				if places, f := Places(q, l, station); !slices.Equal(places, want) || e != f {
					t.Errorf("spare room of %s counts: %s, %d", before, shown(places), f)
				}
			}
			if !slices.Equal(l[:len(l)+2], append(slices.Clone(list), 77, 77)) {
				t.Errorf("%v became %v", list, l[:len(l)+2])
			}
		}
		if after := whole(); after != before {
			t.Errorf("%s became %s", before, after)
		}
	}
}

// wide is a program each of whose stations sends and needs something.
func wide(t *testing.T) api.Prog {
	t.Helper()
	return read(t, 3, "x at 1", "y at 2", "f at 1 default 5 = pre pre y + x", "g at 2 default 6 = x + pre f", "h at 3 default 7 = f + g + y", "k at 1 default 8 = h")
}

// R4: an answer that is changed, its spare room too, changes no other answer, nor what was handed in.
func TestAnswersAreNew(t *testing.T) {
	p := wide(t)
	l := least(t, p)
	before := fmt.Sprint(p, l)
	for station := 1; station <= 3; station++ {
		for _, ask := range []func(api.Prog, int) []string{Sends, Needs} {
			one, two := ask(p, station), ask(p, station)
			want := slices.Clone(two)
			one = one[:cap(one)]
			for i := range one {
				one[i] = "changed"
			}
			if len(want) == 0 || !slices.Equal(two, want) || !slices.Equal(ask(p, station), want) {
				t.Error(station, two, want)
			}
		}
		one, _ := Places(p, l, station)
		two, _ := Places(p, l, station)
		want := slices.Clone(two)
		one = one[:cap(one)]
		for i := range one {
			one[i] = far("changed", 9, 9, 9)
		}
		if len(want) < 3 || !slices.Equal(two, want) {
			t.Error(station, two, want)
		}
		has(t, p, l, station, want...)
	}
	if after := fmt.Sprint(p, l); after != before {
		t.Errorf("%s became %s", before, after)
	}
}

// R4: what was answered stays as it was when what was handed in is changed then.
func TestAnswersStay(t *testing.T) {
	p := wide(t)
	l := least(t, p)
	sent, needed := Sends(p, 1), Needs(p, 1)
	places, e := Places(p, l, 1)
	before := fmt.Sprint(sent, needed, places, e)
	if want := "[x f] [y h] [" + fmt.Sprint(own("x", 0)) + " " + fmt.Sprint(own("f", 0)); !strings.HasPrefix(before, want) {
		t.Error(before)
	}
	for i := range p.Ins {
		p.Ins[i] = api.In{Name: "other", Type: api.TyBool, Station: 3}
	}
	for i := range p.Flows {
		p.Flows[i].Body.Args = nil
		p.Flows[i] = api.Flow{}
	}
	for i := range l {
		l[i] = 500
	}
	if after := fmt.Sprint(sent, needed, places, e); after != before {
		t.Errorf("%s became %s", before, after)
	}
	sends(t, p, 1, "")
	refuses(t, p, l, 1, api.ErrArg)
}

// R4: likewise, when the bytes of its names are changed, and those of the names that it asks for.
func TestNamesAreCopies(t *testing.T) {
	bytes := []byte("abc")
	name := unsafe.String(&bytes[0], len(bytes))
	p := read(t, 2, "abc at 1", "f at 2 = abc")
	p.Ins[0].Name = name
	sent, needed := Sends(p, 1), Needs(p, 2)
	has1, _ := Places(p, []int{1}, 1)
	has2, _ := Places(p, []int{1}, 2)
	copy(bytes, "xyz")
	if sent[0] != "abc" || needed[0] != "abc" || has1[0] != own("abc", 0) || has2[1] != far("abc", 0, 1, 0) {
		t.Error(sent, needed, has1, has2)
	}
	sends(t, p, 1, "")
	refuses(t, p, []int{1}, 2, api.ErrArg)
	p.Flows[0].Body.Name = "xyz"
	sends(t, p, 1, "xyz")
	has(t, p, []int{1}, 2, own("f", 0), far("xyz", 0, 1, 0))
}

// R5: nothing is kept from one call to the next, whichever they are.
func TestNothingKept(t *testing.T) {
	p, q := known(t), wide(t)
	for range 3 {
		sends(t, p, 1, "s")
		refuses(t, p, []int{0, 1, 1}, 1, api.ErrTight)
		sends(t, q, 1, "x f")
		refuses(t, api.Prog{}, nil, 1, api.ErrArg)
		needs(t, p, 1, "t")
		needs(t, q, 3, "f y g")
		has(t, p, []int{0, 1, 2}, 2, own("t", 0), far("s", 0, 1, 0))
		has(t, p, []int{0, 2, 3}, 2, own("t", 0), far("s", 1, 1, 0))
	}
	p.Flows[1].Body, p.Flows[2].Station = api.Expr{Op: api.ExName, Name: "x"}, 2
	sends(t, p, 1, "x")
	sends(t, p, 2, "")
	needs(t, p, 2, "x")
}

// R5: calls at the same time do not disturb each other.
func TestAtOnce(t *testing.T) {
	p, q := known(t), wide(t)
	l := []int{0, 1, 2}
	var group sync.WaitGroup
	for range 8 {
		group.Go(func() {
			for range 50 {
				sends(t, p, 1, "s")
				needs(t, q, 3, "f y g")
				has(t, p, l, 1, own("x", 2), own("s", 1), own("u", 0), far("t", 0, 2, 0))
				refuses(t, q, l, 1, api.ErrTight)
			}
		})
	}
	group.Wait()
}
