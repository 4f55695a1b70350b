package code

import (
	"fmt"
	"math"
	"slices"
	"strconv"
	"strings"
	"testing"

	"belfry/api"
	"belfry/cuts"
	"belfry/late"
	"belfry/names"
	"belfry/progs"
	"belfry/types"
)

// read tells a program of so many stations; its lines are as the chapters write them: "x at 1", which comes from without, "s at 1 = 0 -> pre s + x"; where need be with a type and a default: "b: bool at 2", "v: bool at 1 default true = b".
func read(t *testing.T, stations int, lines ...string) api.Prog {
	t.Helper()
	text := fmt.Sprint("stations ", stations, ";")
	for _, line := range lines {
		head, body, worked := strings.Cut(line, " = ")
		if !strings.Contains(head, ": ") {
			head = strings.Replace(head, " at ", ": int at ", 1)
		}
		if worked && !strings.Contains(head, " default ") {
			head += " default 0"
		}
		if worked {
			text += " flow " + head + " = " + body + ";"
		} else {
			text += " in " + head + ";"
		}
	}
	p, at, e := progs.Parse(text)
	if e != api.OK {
		t.Fatalf("%q: %d at %d", text, e, at)
	}
	return p
}

// known is the P of chapter 14; its flows may be 0, 1, 2 late.
func known(t *testing.T) api.Prog {
	t.Helper()
	return read(t, 2, "x at 1", "s at 1 = 0 -> pre s + x", "t at 2 = s", "u at 1 = t + x")
}

// shown tells something, but not all of it.
func shown(x any) string { return fmt.Sprintf("%.400s", fmt.Sprint(x)) }

// opOf tells the operators that these tests write as words.
func opOf(word string) api.Op {
	return map[string]api.Op{
		"neg": api.ExNeg, "not": api.ExNot, "+": api.ExAdd, "-": api.ExSub, "*": api.ExMul, "/": api.ExDiv, "%": api.ExMod,
		"==": api.ExEq, "!=": api.ExNe, "<": api.ExLt, "<=": api.ExLe, "and": api.ExAnd, "or": api.ExOr, "if": api.ExIf,
	}[word]
}

// code tells the instructions of words: 5, true, false, 3@2 for what is at place 3, 2 rounds ago, ->1 for ExThen with an Ago of 1, the other operators as they are written, and neg.
func code(t *testing.T, s string) []api.Instr {
	t.Helper()
	var l []api.Instr
	number := func(s string) int {
		n, err := strconv.Atoi(s)
		if err != nil {
			t.Fatal(err)
		}
		return n
	}
	for _, word := range strings.Fields(s) {
		place, ago, name := strings.Cut(word, "@")
		then, isThen := strings.CutPrefix(word, "->")
		switch {
		case word == "true":
			l = append(l, api.Instr{Op: api.ExBool, N: 1})
		case word == "false":
			l = append(l, api.Instr{Op: api.ExBool})
		case name:
			l = append(l, api.Instr{Op: api.ExName, N: int64(number(place)), Ago: number(ago)})
		case isThen:
			l = append(l, api.Instr{Op: api.ExThen, Ago: number(then)})
		case opOf(word) != api.ExNone:
			l = append(l, api.Instr{Op: opOf(word)})
		default:
			l = append(l, api.Instr{Op: api.ExInt, N: int64(number(word))})
		}
	}
	return l
}

// least tells how late flows are, if they are as little late as they may.
func least(t *testing.T, p api.Prog) []int {
	t.Helper()
	l, e := late.Of(p)
	if e != api.OK {
		t.Fatalf("late.Of(%s): %d", shown(p), e)
	}
	return l
}

// placesOf tells what a station keeps.
func placesOf(t *testing.T, p api.Prog, l []int, station int) []api.Place {
	t.Helper()
	places, e := cuts.Places(p, l, station)
	if e != api.OK {
		t.Fatalf("cuts.Places(%s, %v, %d): %d", shown(p), l, station, e)
	}
	return places
}

// is asks Of for instructions, written as words, by the places of the flow's station, and Check for the flow's type of them.
func is(t *testing.T, p api.Prog, l []int, flow int, want string) {
	t.Helper()
	places := placesOf(t, p, l, p.Flows[flow].Station)
	c, e := Of(p, l, flow, places)
	if !slices.Equal(c, code(t, want)) || e != api.OK {
		t.Errorf("Of(%s, %v, %d, %s) = %v, %d, want %s", shown(p), l, flow, shown(places), c, e, want)
	}
	leaves(t, places, c, p.Flows[flow].Type)
}

// refuses asks Of for ErrArg, and nothing beside it.
func refuses(t *testing.T, p api.Prog, l []int, flow int, places []api.Place) {
	t.Helper()
	if c, e := Of(p, l, flow, places); len(c) != 0 || e != api.ErrArg {
		t.Errorf("Of(%s, %s, %d, %s) = %s, %d", shown(p), shown(l), flow, shown(places), shown(c), e)
	}
}

// leaves asks Check for a type.
func leaves(t *testing.T, places []api.Place, l []api.Instr, want api.Type) {
	t.Helper()
	if k, ok := Check(places, l); k != want || !ok {
		t.Errorf("Check(%s, %s) = %d, %t, want %d", shown(places), shown(l), k, ok, want)
	}
}

// no asks Check for false, and nothing beside it.
func no(t *testing.T, places []api.Place, l []api.Instr) {
	t.Helper()
	if k, ok := Check(places, l); k != api.TyNone || ok {
		t.Errorf("Check(%s, %s) = %d, %t", shown(places), shown(l), k, ok)
	}
}

// leavesOrNo asks Check for a type, or for false, if it is none.
func leavesOrNo(t *testing.T, places []api.Place, l []api.Instr, want api.Type) {
	t.Helper()
	if want == api.TyNone {
		no(t, places, l)
	} else {
		leaves(t, places, l, want)
	}
}

// P17.1, P17.2: the chapter's examples.
func TestExamples(t *testing.T) {
	p := known(t)
	l := least(t, p)
	is(t, p, l, 0, "0 1@1 0@0 + ->0")
	leaves(t, placesOf(t, p, l, 1), code(t, "0 1@1 0@0 + ->0"), api.TyInt)
	no(t, nil, nil)
	leaves(t, nil, code(t, "true not"), api.TyBool)
}

// P17.1: each operator, behind what it is of, from the left; what a number, yes and no, and a name push.
func TestOperators(t *testing.T) {
	for body, want := range map[string]string{
		"0": "0", "7": "7", "9223372036854775807": "9223372036854775807", "x": "0@0", "y": "1@0",
		"-x": "0@0 neg", "- -3": "3 neg neg", "x + 2": "0@0 2 +", "x - y": "0@0 1@0 -", "y * x": "1@0 0@0 *", "5 / x": "5 0@0 /", "x % 5": "0@0 5 %",
		"x - y - 1": "0@0 1@0 - 1 -", "x - (y - 1)": "0@0 1@0 1 - -", "1 + 2 * 3 - 4": "1 2 3 * + 4 -",
		"if b then x else y": "2@0 0@0 1@0 if", "if x < y then 1 else if c then 2 else 3": "0@0 1@0 < 1 3@0 2 3 if if",
		"x -> y": "0@0 1@0 ->0", "1 -> 2 -> 3": "1 2 3 ->0 ->0", "(1 -> 2) -> 3": "1 2 ->0 3 ->0",
	} {
		is(t, read(t, 1, "x at 1", "y at 1", "b: bool at 1", "c: bool at 1", "f at 1 = "+body), []int{0}, 0, want)
	}
	for body, want := range map[string]string{
		"true": "true", "false": "false", "b": "2@0", "c": "3@0", "not b": "2@0 not", "not not true": "true not not",
		"x == y": "0@0 1@0 ==", "b == true": "2@0 true ==", "x != 1": "0@0 1 !=", "b != c": "2@0 3@0 !=", "x < y": "0@0 1@0 <", "y <= 0": "1@0 0 <=",
		"b and c": "2@0 3@0 and", "b or not c": "2@0 3@0 not or", "b and c or true": "2@0 3@0 and true or", "b and (c or true)": "2@0 3@0 true or and",
		"if b then c else true": "2@0 3@0 true if", "b -> c": "2@0 3@0 ->0",
	} {
		is(t, read(t, 1, "x at 1", "y at 1", "b: bool at 1", "c: bool at 1", "f: bool at 1 default true = "+body), []int{0}, 0, want)
	}
}

// P17.1: ExPre has no instruction of its own: what it is of, names and ExThen's, is an instant longer ago for each one that it lies in; on both sides of an ExThen.
func TestPre(t *testing.T) {
	for body, want := range map[string]string{
		"pre x": "0@1", "pre pre x": "0@2", "pre 3": "3", "pre pre (x + pre 1)": "0@2 1 +", "pre x + x": "0@1 0@0 +", "x + pre x": "0@0 0@1 +",
		"pre (x + pre (y + pre x))": "0@1 1@2 0@3 + +", "x + pre x + pre pre x": "0@0 0@1 + 0@2 +",
		"0 -> pre x": "0 0@1 ->0", "pre x -> x": "0@1 0@0 ->0", "pre x -> pre pre y": "0@1 1@2 ->0", "x -> y": "0@0 1@0 ->0",
		"pre (x -> y)": "0@1 1@1 ->1", "pre (x -> pre y)": "0@1 1@2 ->1", "pre pre (pre x -> y)": "0@3 1@2 ->2",
		"0 -> pre (1 -> pre (2 -> pre x))": "0 1 2 0@3 ->2 ->1 ->0", "pre (pre (x -> 1) -> 2) -> 3": "0@2 1 ->2 2 ->1 3 ->0",
		"if pre x < x then pre (0 -> y) else pre pre y": "0@1 0@0 < 0 1@1 ->1 1@2 if", "pre (if x == pre y then -x else x)": "0@1 1@2 == 0@1 neg 0@1 if",
		"0 -> pre f": "0 2@1 ->0", "pre pre f + pre f": "2@2 2@1 +",
	} {
		is(t, read(t, 1, "x at 1", "y at 1", "f at 1 = "+body), []int{0}, 0, want)
	}
	is(t, read(t, 1, "b: bool at 1", "f: bool at 1 = pre (not b) or pre true and not (true -> pre f)"), []int{0}, 0, "0@1 not true true 1@1 ->0 not and or")
}

// P17.1: names of Ins and of flows, of this station and of others, at once and longer ago; by lists that are the least one, and that are not.
func TestAges(t *testing.T) {
	p := read(t, 3, "x at 1", "y at 2", "a at 1 = x", "b at 2 = y + a", "f at 1 = x + pre x + y + pre y + a + pre pre a + b + pre b", "g at 3 = f + pre x")
	if l := least(t, p); !slices.Equal(l, []int{0, 1, 2, 3}) {
		t.Fatal(l)
	}
	for _, c := range []struct {
		l    []int
		f, g string
	}{ // the places of 1: x, a, f, y, b; of 3: g, x, f
		{[]int{0, 1, 2, 3}, "0@2 0@3 + 3@1 + 3@2 + 1@2 + 1@4 + 4@0 + 4@1 +", "2@0 1@3 +"},
		{[]int{1, 2, 3, 4}, "0@3 0@4 + 3@2 + 3@3 + 1@2 + 1@4 + 4@0 + 4@1 +", "2@0 1@4 +"},
		{[]int{0, 1, 5, 6}, "0@5 0@6 + 3@4 + 3@5 + 1@5 + 1@7 + 4@3 + 4@4 +", "2@0 1@6 +"},
		{[]int{0, 4, 5, 1000}, "0@5 0@6 + 3@4 + 3@5 + 1@5 + 1@7 + 4@0 + 4@1 +", "2@994 1@1000 +"},
		{[]int{0, 1, 999, 1000}, "0@999 0@1000 + 3@998 + 3@999 + 1@999 + 1@1001 + 4@997 + 4@998 +", "2@0 1@1000 +"},
		{[]int{997, 998, 999, 1000}, "0@999 0@1000 + 3@998 + 3@999 + 1@2 + 1@4 + 4@0 + 4@1 +", "2@0 1@1000 +"},
	} {
		is(t, p, c.l, 2, c.f)
		is(t, p, c.l, 3, c.g)
	}
	is(t, p, []int{3, 9, 12, 13}, 0, "0@3")
	is(t, p, []int{3, 9, 12, 13}, 1, "0@9 2@5 +")
}

// P17.1: what is asked for ahead of being declared, of a flow's own, and by names that differ in a letter's size or in their end alone, is found.
func TestPlacesByNames(t *testing.T) {
	p := read(t, 2, "A at 1", "a at 1", "aa at 2", "f at 1 = g + pre f + a + A + aa + a_", "g at 1 = 1", "a_ at 2 = 2")
	is(t, p, []int{1, 0, 0}, 0, "3@1 2@1 + 1@1 + 0@1 + 4@0 + 5@0 +")
	q := read(t, 1, "f at 1 = h", "h at 1 = f")
	is(t, q, []int{4, 4}, 0, "1@0")
	is(t, q, []int{4, 4}, 1, "0@0")
}

// P17.1: the same flow, wherever it is declared, and whatever its Default, the Outs and the number of stations are.
func TestOtherFieldsSayNothing(t *testing.T) {
	p := known(t)
	p.Stations, p.Outs = 8, []string{"u", "x"}
	p.Flows[0].Default = 99
	is(t, p, []int{0, 1, 2}, 0, "0 1@1 0@0 + ->0")
	slices.Reverse(p.Flows)
	is(t, p, []int{2, 1, 0}, 2, "0 2@1 0@0 + ->0")
	is(t, p, []int{2, 1, 0}, 0, "3@0 0@2 +")
}

// P17.1: a number of a flow that is not there.
func TestNoSuchFlow(t *testing.T) {
	p := known(t)
	l := []int{0, 1, 2}
	for station := range 4 {
		places, _ := cuts.Places(p, l, station)
		for _, flow := range []int{math.MinInt, -1 << 32, -257, -3, -1, 3, 4, 256, 1 << 32, math.MaxInt} {
			refuses(t, p, l, flow, places)
		}
	}
	none := api.Prog{Stations: 1}
	for _, flow := range []int{-1, 0, 1} {
		refuses(t, none, nil, flow, nil)
	}
}

// P17.1: lists that late.Check says no to, with places of one that it says yes to.
func TestLists(t *testing.T) {
	p := known(t)
	for _, l := range [][]int{
		nil, {}, {0}, {0, 1}, {0, 1, 2, 3}, {0, 1, 2, 0}, make([]int, 500), make([]int, 1<<20),
		{-1, 1, 2}, {0, -1, 2}, {0, 1, -1}, {math.MinInt, 1, 2}, {0, 1, 1001}, {0, 1001, 1002}, {0, 1, math.MaxInt}, {math.MaxInt, math.MinInt, 0},
		{0, 0, 2}, {0, 1, 1}, {1, 1, 2}, {2, 1, 0},
	} {
		if late.Check(p, l) {
			t.Fatal(l)
		}
		for flow, f := range p.Flows {
			refuses(t, p, l, flow, placesOf(t, p, []int{0, 1, 2}, f.Station))
		}
	}
	tight := read(t, 2, "s at 1 = t", "t at 2 = 0 -> pre s")
	open := read(t, 2, "s at 1 = t", "t at 2 = 0 -> pre pre s")
	for i := range 9 {
		for flow, f := range tight.Flows {
			refuses(t, tight, []int{i, i + 1}, flow, placesOf(t, open, []int{1, 0}, f.Station))
			refuses(t, tight, []int{i + 1, i}, flow, placesOf(t, open, []int{1, 0}, f.Station))
		}
	}
}

// P17.1: places of a list other than the one that is handed in, though flows may be so late by either.
func TestPlacesOfAnotherList(t *testing.T) {
	p := known(t)
	refuses(t, p, []int{0, 1, 2}, 0, placesOf(t, p, []int{0, 1, 3}, 1))
	refuses(t, p, []int{0, 1, 3}, 2, placesOf(t, p, []int{0, 1, 2}, 1))
	is(t, p, []int{0, 1, 3}, 2, "3@1 0@3 +")
}

// P17.1: places of another station, in another order, too few, too many.
func TestOtherPlaces(t *testing.T) {
	p := known(t)
	l := []int{0, 1, 2}
	for flow, f := range p.Flows {
		places, other := placesOf(t, p, l, f.Station), placesOf(t, p, l, 3-f.Station)
		refuses(t, p, l, flow, other)
		refuses(t, p, l, flow, nil)
		refuses(t, p, l, flow, slices.Concat(places, other))
		refuses(t, p, l, flow, slices.Concat(places, places))
		for i := range places {
			refuses(t, p, l, flow, slices.Delete(slices.Clone(places), i, i+1))
			refuses(t, p, l, flow, places[:i])
			refuses(t, p, l, flow, slices.Insert(slices.Clone(places), i, places[i]))
			refuses(t, p, l, flow, slices.Insert(slices.Clone(places), i+1, api.Place{}))
			if swapped := slices.Clone(places); i > 0 {
				swapped[i-1], swapped[i] = swapped[i], swapped[i-1]
				refuses(t, p, l, flow, swapped)
			}
		}
	}
	lone := read(t, 2, "f at 1 = 3")
	is(t, lone, []int{0}, 0, "3")
	refuses(t, lone, []int{0}, 0, nil)
	refuses(t, lone, []int{0}, 0, []api.Place{})
}

// P17.1: one field of one place is other than it should be.
func TestEachFieldOfPlaces(t *testing.T) {
	p := known(t)
	l := []int{0, 1, 2}
	for flow, f := range p.Flows {
		places := placesOf(t, p, l, f.Station)
		for i, right := range places {
			for _, change := range []func(place *api.Place){
				func(place *api.Place) { place.Name += "x" }, func(place *api.Place) { place.Name = "" }, func(place *api.Place) { place.Name = strings.ToUpper(place.Name) },
				func(place *api.Place) { place.Type = api.TyBool }, func(place *api.Place) { place.Type = api.TyNone }, func(place *api.Place) { place.Type = 255 },
				func(place *api.Place) { place.Keep++ }, func(place *api.Place) { place.Keep-- }, func(place *api.Place) { place.Keep += 1 << 32 },
				func(place *api.Place) { place.Far = !place.Far },
				func(place *api.Place) { place.From++ }, func(place *api.Place) { place.From-- }, func(place *api.Place) { place.From += 256 },
				func(place *api.Place) { place.Default = 1 }, func(place *api.Place) { place.Default = -1 << 32 },
			} {
				change(&places[i])
				refuses(t, p, l, flow, places)
				places[i] = right
			}
		}
		if c, e := Of(p, l, flow, places); len(c) == 0 || e != api.OK {
			t.Error(c, e)
		}
	}
}

// spoiled tells programs that types.Check refuses, with each of its errors; of each, how it comes of P.
func spoiled() map[string]func(p *api.Prog) api.Errno {
	name := func(s string) api.Expr { return api.Expr{Op: api.ExName, Name: s} }
	yes := api.Expr{Op: api.ExBool, N: 1}
	return map[string]func(p *api.Prog) api.Errno{
		"no stations":       func(p *api.Prog) api.Errno { p.Stations = 0; return api.ErrArg },
		"too many":          func(p *api.Prog) api.Errno { p.Stations = math.MaxInt; return api.ErrArg },
		"an In's station":   func(p *api.Prog) api.Errno { p.Ins[0].Station = 3; return api.ErrArg },
		"a flow's station":  func(p *api.Prog) api.Errno { p.Flows[0].Station = 0; return api.ErrArg },
		"far off":           func(p *api.Prog) api.Errno { p.Flows[0].Station = math.MinInt; return api.ErrArg },
		"a flow's type":     func(p *api.Prog) api.Errno { p.Flows[0].Type = 3; return api.ErrArg },
		"a default":         func(p *api.Prog) api.Errno { p.Flows[0].Default = math.MinInt64; return api.ErrArg },
		"no name":           func(p *api.Prog) api.Errno { p.Ins[0].Name = ""; return api.ErrArg },
		"no Body":           func(p *api.Prog) api.Errno { p.Flows[0].Body = api.Expr{}; return api.ErrArg },
		"a field too much":  func(p *api.Prog) api.Errno { p.Flows[0].Body.N = 1; return api.ErrArg },
		"an out's name":     func(p *api.Prog) api.Errno { p.Outs = []string{"1"}; return api.ErrArg },
		"many flows":        func(p *api.Prog) api.Errno { p.Flows = make([]api.Flow, api.MaxFlows+1); return api.ErrArg },
		"two of one name":   func(p *api.Prog) api.Errno { p.Flows[2].Name = "t"; return api.ErrName },
		"not there":         func(p *api.Prog) api.Errno { p.Flows[2].Body = name("none"); return api.ErrName },
		"an out twice":      func(p *api.Prog) api.Errno { p.Outs = []string{"u", "u"}; return api.ErrName },
		"yes for a number":  func(p *api.Prog) api.Errno { p.Flows[0].Body = yes; return api.ErrType },
		"in another flow":   func(p *api.Prog) api.Errno { p.Flows[2].Body.Args[1] = yes; return api.ErrType },
		"a flow of yes, no": func(p *api.Prog) api.Errno { p.Flows[2].Type = api.TyBool; return api.ErrType },
		"a default of yes": func(p *api.Prog) api.Errno {
			p.Flows[2].Type, p.Flows[2].Body, p.Flows[2].Default = api.TyBool, yes, 2
			return api.ErrType
		},
	}
}

// P17.1: programs that types.Check refuses, at each flow, by the places that the station would have.
func TestRefusedPrograms(t *testing.T) {
	for what, spoil := range spoiled() {
		p := known(t)
		l := []int{0, 1, 2}
		places := placesOf(t, p, l, 1)
		if want, e := spoil(&p), types.Check(p); e != want {
			t.Fatal(what, e)
		}
		if own, e := cuts.Places(p, l, 1); e == api.OK {
			places = own
		} else if names.Check(p) == api.OK {
			t.Fatal(what, e)
		}
		for flow := -1; flow < 4; flow++ {
			refuses(t, p, l, flow, places)
		}
		refuses(t, p, nil, 0, nil)
	}
}

// P17.1: a program that hangs on itself, or has no beginning, has instructions: types.Check and late.Check alone are asked.
func TestWithoutMeaning(t *testing.T) {
	p := read(t, 1, "f at 1 = g", "g at 1 = f + pre f", "h at 1 = pre pre h")
	is(t, p, []int{0, 0, 0}, 0, "1@0")
	is(t, p, []int{0, 0, 0}, 1, "0@0 0@1 +")
	is(t, p, []int{0, 0, 0}, 2, "2@2")
}

// chain tells a part of so many ExAdd's, each of the one ahead of it and a leaf.
func chain(leaf api.Expr, sums int) api.Expr {
	x := leaf
	for range sums {
		x = api.Expr{Op: api.ExAdd, Args: []api.Expr{x, leaf}}
	}
	return x
}

// wrapped tells a part in so many operators of one.
func wrapped(op api.Op, x api.Expr, count int) api.Expr {
	for range count {
		x = api.Expr{Op: op, Args: []api.Expr{x}}
	}
	return x
}

// full tells a sum of so many leaves, as flat as may be.
func full(leaf api.Expr, leaves int) api.Expr {
	if leaves == 1 {
		return leaf
	}
	return api.Expr{Op: api.ExAdd, Args: []api.Expr{full(leaf, leaves-leaves/2), full(leaf, leaves/2)}}
}

// mirrored tells the same with what each operator is of from right to left.
func mirrored(x api.Expr) api.Expr {
	var parts []api.Expr
	for _, part := range x.Args {
		parts = append(parts, mirrored(part))
	}
	slices.Reverse(parts)
	x.Args = parts
	return x
}

// lone tells a program of the In x at 1 and a flow f at 1 or 2.
func lone(station int, body api.Expr) api.Prog {
	return api.Prog{Stations: 2, Ins: []api.In{{Name: "x", Type: api.TyInt, Station: 1}}, Flows: []api.Flow{{Name: "f", Type: api.TyInt, Station: station, Body: body}}}
}

// P17.1, P17.3: Bodies as deep as they may be, and one deeper.
func TestDeepest(t *testing.T) {
	x, one := api.Expr{Op: api.ExName, Name: "x"}, api.Expr{Op: api.ExInt, N: 1}
	for want, body := range map[string]api.Expr{
		"0@38":                                wrapped(api.ExPre, x, 31),
		"1":                                   wrapped(api.ExPre, one, 31),
		"0@7 " + strings.Repeat("neg ", 31):   wrapped(api.ExNeg, x, 31),
		"1 0@37 ->30":                         wrapped(api.ExPre, api.Expr{Op: api.ExThen, Args: []api.Expr{one, x}}, 30),
		"0@7 " + strings.Repeat("0@7 + ", 31): chain(x, 31),
		strings.Repeat("0@7 ", 32) + plus(31): mirrored(chain(x, 31)),
		"0@35 1 + 1 + 0@34 +":                 wrapped(api.ExPre, nested(x, one), 27),
	} {
		p := lone(1, body)
		is(t, p, []int{7}, 0, want)
		places := placesOf(t, p, []int{7}, 1)
		p.Flows[0].Body = wrapped(api.ExNeg, body, 1)
		refuses(t, p, []int{7}, 0, places)
		is(t, lone(2, body), []int{8}, 0, strings.ReplaceAll(want, "0@", "1@"))
	}
}

func plus(count int) string { return strings.Repeat("+ ", count) }

// nested tells pre x + 1 + 1 + x, which is 5 deep.
func nested(x, one api.Expr) api.Expr {
	sum := func(l, r api.Expr) api.Expr { return api.Expr{Op: api.ExAdd, Args: []api.Expr{l, r}} }
	return sum(sum(sum(wrapped(api.ExPre, x, 1), one), one), x)
}

// P17.1, P17.3: Bodies as great as they may be, and one part greater.
func TestGreatest(t *testing.T) {
	x := api.Expr{Op: api.ExName, Name: "x"}
	for pres, c := range map[int]api.Expr{0: wrapped(api.ExNeg, full(x, 100), 1), 1: wrapped(api.ExPre, full(x, 100), 1), 3: wrapped(api.ExPre, wrapped(api.ExNeg, full(x, 98), 2), 3)} {
		p := lone(1, c)
		places := placesOf(t, p, []int{7}, 1)
		l, e := Of(p, []int{7}, 0, places)
		if len(l) != api.MaxSize-pres || e != api.OK || l[0] != (api.Instr{Op: api.ExName, Ago: 7 + pres}) {
			t.Error(pres, len(l), e)
		}
		leaves(t, places, l, api.TyInt)
		p.Flows[0].Body = wrapped(api.ExNeg, c, 1)
		refuses(t, p, []int{7}, 0, places)
	}
}
