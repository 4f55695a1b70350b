package code

import (
	"fmt"
	"math"
	"slices"
	"strings"
	"sync"
	"testing"
	"unsafe"

	"belfry/api"
	"belfry/cuts"
	"belfry/late"
	"belfry/names"
	"belfry/types"
)

// chance tells numbers that look like chance and are the same in each run.
func chance(seed uint64) func(below int) int {
	return func(below int) int {
		seed = seed*6364136223846793005 + 1442695040888963407
		return int(seed >> 33 % uint64(below))
	}
}

// grower makes programs by chance.
type grower struct {
	next func(below int) int
	prog api.Prog
}

// name tells one of that type, in as many ExPre's as it needs to be told in time; a literal, if there is none.
func (g *grower) name(t api.Type, before int) api.Expr {
	var l []api.Expr
	for _, in := range g.prog.Ins {
		if in.Type == t {
			l = append(l, wrapped(api.ExPre, api.Expr{Op: api.ExName, Name: in.Name}, max(0, g.next(6)-3)))
		}
	}
	for i, f := range g.prog.Flows {
		x := api.Expr{Op: api.ExName, Name: f.Name}
		if f.Type != t {
			continue
		}
		if i < before {
			l = append(l, wrapped(api.ExPre, x, max(0, g.next(6)-3)))
		} else if g.next(5) == 0 {
			l = append(l, wrapped(api.ExPre, x, 2+g.next(5)))
		}
	}
	if len(l) == 0 || g.next(5) == 0 {
		return api.Expr{Op: api.Op(t), N: int64(g.next(2))} // since ExInt and ExBool are 1 and 2 as their types are
	}
	return l[g.next(len(l))]
}

// body tells a part of that type, at most so deep but for what names lie in.
func (g *grower) body(t api.Type, deep, before int) api.Expr {
	if deep == 0 || g.next(4) == 0 {
		return g.name(t, before)
	}
	ops := []api.Op{api.ExIf, api.ExThen, api.ExPre, api.ExNeg, api.ExAdd, api.ExSub, api.ExMul, api.ExDiv, api.ExMod}
	if t == api.TyBool {
		ops = []api.Op{api.ExIf, api.ExThen, api.ExPre, api.ExNot, api.ExAnd, api.ExOr, api.ExEq, api.ExNe, api.ExLt, api.ExLe}
	}
	x := api.Expr{Op: ops[g.next(len(ops))]}
	parts := map[api.Op][]api.Type{
		api.ExIf: {api.TyBool, t, t}, api.ExThen: {t, t}, api.ExPre: {t}, api.ExNeg: {t}, api.ExNot: {t}, api.ExAnd: {t, t}, api.ExOr: {t, t},
		api.ExEq: slices.Repeat([]api.Type{api.Type(1 + g.next(2))}, 2), api.ExNe: slices.Repeat([]api.Type{api.Type(1 + g.next(2))}, 2),
	}[x.Op]
	if parts == nil {
		parts = []api.Type{api.TyInt, api.TyInt}
	}
	for _, part := range parts {
		x.Args = append(x.Args, g.body(part, deep-1, before))
	}
	return x
}

// grown tells a program whose types are right, whether its flows may be late in any way or not.
func grown(next func(int) int, ins, flows, stations, deep int) api.Prog {
	g := grower{next: next, prog: api.Prog{Stations: stations}}
	for i := range ins {
		g.prog.Ins = append(g.prog.Ins, api.In{Name: fmt.Sprint("i", i), Type: api.Type(1 + next(2)), Station: 1 + next(stations)})
	}
	for i := range flows {
		g.prog.Flows = append(g.prog.Flows, api.Flow{Name: fmt.Sprint("f", i), Type: api.Type(1 + next(2)), Station: 1 + next(stations), Default: int64(next(2))})
	}
	for i, f := range g.prog.Flows {
		g.prog.Flows[i].Body = g.body(f.Type, deep, i)
	}
	for i := range g.prog.Flows {
		j := i + next(flows-i)
		g.prog.Flows[i], g.prog.Flows[j] = g.prog.Flows[j], g.prog.Flows[i]
	}
	return g.prog
}

// told tells the instructions of a part that lies in so many ExPre's, in the chapter's words.
func told(t *testing.T, p api.Prog, l []int, flow int, places []api.Place, x api.Expr, pres int) []api.Instr {
	t.Helper()
	if x.Op == api.ExPre {
		return told(t, p, l, flow, places, x.Args[0], pres+1)
	}
	var all []api.Instr
	for _, part := range x.Args {
		all = append(all, told(t, p, l, flow, places, part, pres)...)
	}
	i := api.Instr{Op: x.Op, N: x.N}
	switch x.Op {
	case api.ExName:
		age, e := late.Age(p, l, flow, api.Ref{Name: x.Name, Ago: pres})
		if e != api.OK {
			t.Fatal(shown(p), l, flow, x, pres, e)
		}
		i.N, i.Ago = int64(slices.IndexFunc(places, func(place api.Place) bool { return place.Name == x.Name })), age
	case api.ExThen:
		i.Ago = pres
	}
	return append(all, i)
}

// asTold holds both calls against the chapter's words, at each flow, and tells how many instructions there were.
func asTold(t *testing.T, p api.Prog, l []int) int {
	t.Helper()
	sum := 0
	for flow, f := range p.Flows {
		places := placesOf(t, p, l, f.Station)
		c, e := Of(p, l, flow, places)
		if want := told(t, p, l, flow, places, f.Body, 0); !slices.Equal(c, want) || e != api.OK {
			t.Errorf("Of(%s, %v, %d) = %s, %d, want %s", shown(p), l, flow, shown(c), e, shown(want))
		}
		leaves(t, places, c, f.Type)
		sum += len(c)
	}
	return sum
}

// P17.1, P17.3: many by chance, as little late as they may be and later; with places of another list, or of another station, they are refused.
func TestMany(t *testing.T) {
	next := chance(17)
	programs, later, others, instructions := 0, 0, 0, 0
	for range 500 {
		p := grown(next, next(4), 1+next(8), 1+next(4), next(6))
		l, e := late.Of(p)
		if e == api.ErrTight || types.Check(p) == api.ErrArg { // too great
			continue
		}
		if e != api.OK || types.Check(p) != api.OK {
			t.Fatal(shown(p), e, types.Check(p))
		}
		programs++
		instructions += asTold(t, p, l)
		more := slices.Clone(l)
		for i := range more {
			more[i] += next(4) * next(200)
		}
		flow := next(len(l))
		places := placesOf(t, p, l, p.Flows[flow].Station)
		if !late.Check(p, more) {
			refuses(t, p, more, flow, places)
			continue
		}
		later++
		asTold(t, p, more)
		if their := placesOf(t, p, more, p.Flows[flow].Station); !slices.Equal(places, their) {
			others++
			refuses(t, p, more, flow, places)
			refuses(t, p, l, flow, their)
		}
	}
	if programs < 250 || later < 80 || others < 30 || instructions < 5000 {
		t.Error(programs, later, others, instructions)
	}
}

// treeOf tells the part that instructions are of, with places as names p0 and on; false, if they leave not just one value. It does not ask for types.
func treeOf(l []api.Instr) (api.Expr, bool) {
	var pile []api.Expr
	for _, i := range l {
		x := api.Expr{Op: i.Op}
		takes := 2
		switch i.Op {
		case api.ExInt, api.ExBool:
			takes = 0
		case api.ExName:
			takes, x.Name = 0, fmt.Sprint("p", i.N)
		case api.ExNeg, api.ExNot:
			takes = 1
		case api.ExIf:
			takes = 3
		}
		if i.Op == api.ExNone || i.Op >= api.ExPre || len(pile) < takes {
			return api.Expr{}, false
		}
		rest := len(pile) - takes
		x.Args = slices.Clone(pile[rest:])
		pile = append(pile[:rest], x)
	}
	if len(pile) != 1 {
		return api.Expr{}, false
	}
	return pile[0], true
}

// fieldsMay tells whether an instruction's fields may be, in the chapter's words.
func fieldsMay(places []api.Place, i api.Instr) bool {
	switch i.Op {
	case api.ExInt:
		return i.Ago == 0
	case api.ExBool:
		return i.Ago == 0 && (i.N == 0 || i.N == 1)
	case api.ExName:
		return i.N >= 0 && i.N < int64(len(places)) && i.Ago >= 0 && i.Ago <= places[i.N].Keep
	case api.ExThen:
		return i.N == 0 && i.Ago >= 0 && i.Ago <= api.MaxDeep
	}
	return i.N == 0 && i.Ago == 0
}

// toldType tells what Check answers of at most MaxDeep instructions, by chapter 8.
func toldType(places []api.Place, l []api.Instr) api.Type {
	p := api.Prog{}
	for i, place := range places {
		p.Ins = append(p.Ins, api.In{Name: fmt.Sprint("p", i), Type: place.Type})
		if place.Type != api.TyInt && place.Type != api.TyBool || place.Keep < 0 || place.Keep > 4*api.MaxLate {
			return api.TyNone
		}
	}
	for _, i := range l {
		if !fieldsMay(places, i) {
			return api.TyNone
		}
	}
	x, ok := treeOf(l)
	if !ok {
		return api.TyNone
	}
	t, _ := types.Of(p, x)
	return t
}

// changed tells places and instructions in which something is other than it was.
func changed(next func(int) int, places []api.Place, l []api.Instr) ([]api.Place, []api.Instr) {
	places, l = slices.Clone(places), slices.Clone(l)
	at := next(len(l))
	switch next(9) {
	case 0:
		l[at].Op = api.Op(next(22))
	case 1:
		l[at].N += int64(next(5) - 2)
	case 2:
		l[at].Ago += next(5) - 2
	case 3:
		l = slices.Delete(l, at, at+1)
	case 4:
		l = slices.Insert(l, at, l[next(len(l))])
	case 5:
		with := next(len(l))
		l[at], l[with] = l[with], l[at]
	case 6:
		l = l[:at]
	case 7:
		if len(places) > 0 {
			places[next(len(places))].Type = api.Type(next(4))
		}
	case 8:
		if len(places) > 0 {
			places[next(len(places))].Keep += next(3) - 1
		}
	}
	return places, l
}

// P17.2: what Of answers, and what comes of it by one change and by two, each held against chapter 8.
func TestManyChecked(t *testing.T) {
	next := chance(18)
	yes, nay := 0, 0
	for range 600 {
		p := grown(next, 1+next(3), 1+next(4), 1+next(3), 1+next(4))
		l, e := late.Of(p)
		if e != api.OK {
			continue
		}
		flow := next(len(l))
		places := placesOf(t, p, l, p.Flows[flow].Station)
		c, _ := Of(p, l, flow, places)
		if len(c) == 0 || len(c) > api.MaxDeep-2 {
			continue
		}
		leavesOrNo(t, places, c, toldType(places, c))
		for range 40 {
			odd, i := changed(next, places, c)
			if len(i) > 0 && next(3) == 0 {
				odd, i = changed(next, odd, i)
			}
			want := toldType(odd, i)
			leavesOrNo(t, odd, i, want)
			if want == api.TyNone {
				nay++
			} else {
				yes++
			}
		}
	}
	if yes < 1000 || nay < 5000 {
		t.Error(yes, nay)
	}
}

// P17.2, R1: any instructions and any places whatever are told, and end.
func TestWild(t *testing.T) {
	next := chance(19)
	numbers := []int64{math.MinInt64, -1, 0, 0, 0, 0, 1, 1, 2, 3, 32, 33, 4000, 4001, math.MaxInt64}
	number := func() int64 { return numbers[next(len(numbers))] }
	yes := 0
	for range 20000 {
		var places []api.Place
		for range next(4) {
			places = append(places, api.Place{Type: api.Type(1 + next(2)), Keep: next(3)})
			if next(20) == 0 {
				places[0] = api.Place{Type: api.Type(next(256)), Keep: int(number()), From: int(number()), Default: number()}
			}
		}
		var l []api.Instr
		for range next(8) {
			l = append(l, api.Instr{Op: api.Op(1 + next(int(api.ExPre))), N: number(), Ago: int(number())})
			if next(2) == 0 {
				l[len(l)-1] = api.Instr{Op: api.Op(next(22))}
			}
		}
		want := toldType(places, l)
		leavesOrNo(t, places, l, want)
		if want != api.TyNone {
			yes++
		}
	}
	if yes < 100 {
		t.Error(yes)
	}
}

// P17.1, P17.3, R1: as many Ins, flows and stations as there may be, the Bodies as great as they may be: all is told.
func TestMost(t *testing.T) {
	p := api.Prog{Stations: api.MaxStations}
	var all []api.Expr
	for i := range api.MaxIns {
		p.Ins = append(p.Ins, api.In{Name: fmt.Sprint("i", i), Type: api.TyInt, Station: 1 + i%8})
		all = append(all, api.Expr{Op: api.ExName, Name: p.Ins[i].Name})
	}
	for i := range api.MaxFlows {
		body := all[0]
		asked := all[max(0, len(all)-100):]
		for len(asked) > 1 {
			var pairs []api.Expr
			for pair := range slices.Chunk(asked, 2) {
				if len(pair) == 2 {
					pair = []api.Expr{{Op: api.ExAdd, Args: slices.Clone(pair)}}
				}
				pairs = append(pairs, pair...)
			}
			asked, body = pairs, pairs[0]
		}
		p.Flows = append(p.Flows, api.Flow{Name: fmt.Sprint("f", i), Type: api.TyInt, Station: 1 + i%8, Default: int64(i), Body: body})
		all = append(all, api.Expr{Op: api.ExName, Name: p.Flows[i].Name})
	}
	l := least(t, p)
	var ofStations [][]api.Place
	for station := range api.MaxStations {
		ofStations = append(ofStations, placesOf(t, p, l, station+1))
	}
	for flow, f := range p.Flows {
		if flow%7 != 0 && flow < api.MaxFlows-2 { // some of them are enough
			continue
		}
		places := ofStations[f.Station-1]
		c, e := Of(p, l, flow, places)
		asked := min(100, api.MaxIns+flow)
		if len(c) != 2*asked-1 || e != api.OK {
			t.Error(flow, len(c), e)
		}
		leaves(t, places, c, api.TyInt)
		for _, i := range c {
			if i.Op != api.ExName {
				continue
			}
			want := l[flow]
			if _, _, other, _ := names.Find(p, places[i.N].Name); other >= 0 {
				want -= l[other]
			}
			if places[i.N].Far {
				want--
			}
			if i.Ago != want {
				t.Fatal(flow, i, want)
			}
		}
	}
}

// R1: Bodies whose parts hold themselves, are very deep or very many, are refused, not gone into.
func TestOdd(t *testing.T) {
	name, number := api.Expr{Op: api.ExName, Name: "f"}, api.Expr{Op: api.ExInt, N: 1}
	round := api.Expr{Op: api.ExAdd, Args: []api.Expr{number, number}}
	round.Args[0] = round
	places := []api.Place{{Name: "f", Type: api.TyInt}}
	for _, body := range []api.Expr{round, wrapped(api.ExPre, name, 1<<15), {Op: api.ExPre}, {Op: 77, Args: []api.Expr{name}}, {Op: api.ExName, Name: "f", Args: []api.Expr{name}}, {Op: api.ExAdd, Args: slices.Repeat([]api.Expr{name}, 1<<16)}} {
		p := api.Prog{Stations: 1, Flows: []api.Flow{{Name: "f", Type: api.TyInt, Station: 1, Body: body}}}
		refuses(t, p, []int{0}, 0, places)
	}
	refuses(t, api.Prog{}, nil, 0, nil)
	refuses(t, api.Prog{}, []int{0}, 0, places)
	p := known(t)
	refuses(t, p, []int{0, 1, 2}, 0, slices.Repeat(places, 1<<20))
}

func copiedBody(x api.Expr) api.Expr {
	x.Args = slices.Clone(x.Args)
	for i, part := range x.Args {
		x.Args[i] = copiedBody(part)
	}
	return x
}

// copied tells the same in memory of its own.
func copied(p api.Prog) api.Prog {
	p.Ins, p.Flows, p.Outs = slices.Clone(p.Ins), slices.Clone(p.Flows), slices.Clone(p.Outs)
	for i, f := range p.Flows {
		p.Flows[i].Body = copiedBody(f.Body)
	}
	return p
}

// spare tells a list with room behind it, in which something stands.
func spare[T any](l []T, behind T) []T {
	l = append(slices.Clone(l), behind, behind)
	return l[:len(l)-2]
}

// R4: what is handed in stays as it was after each call, spare room too, which says nothing.
func TestArgumentsStay(t *testing.T) {
	sound, wrong := known(t), known(t)
	wrong.Flows[2].Body.Args[0] = api.Expr{Op: api.ExBool}
	behind := api.Place{Name: "behind", Type: api.TyBool, Keep: 7}
	for _, p := range []api.Prog{sound, wrong, {Stations: 3}} {
		q := copied(p)
		q.Ins, q.Flows, q.Outs = spare(p.Ins, api.In{Name: "y", Type: api.TyInt, Station: 2}), spare(p.Flows, api.Flow{Name: "z"}), spare(p.Outs, "q")
		for i, f := range q.Flows {
			q.Flows[i].Body.Args = spare(f.Body.Args, api.Expr{Op: api.ExName, Name: "behind"})
		}
		whole := func() string {
			all := q
			all.Ins, all.Flows, all.Outs = q.Ins[:len(q.Ins)+2], slices.Clone(q.Flows[:len(q.Flows)+2]), q.Outs[:len(q.Outs)+2]
			for i := range q.Flows {
				all.Flows[i].Body.Args = all.Flows[i].Body.Args[:len(all.Flows[i].Body.Args)+2]
			}
			return fmt.Sprint(all)
		}
		before := whole()
		for _, list := range [][]int{{0, 1, 2}, {0, 1, 1}, {0, 0}, {-5, 2000, 7}, nil} {
			for station := range 3 {
				own, _ := cuts.Places(p, []int{0, 1, 2}, station)
				l, places := spare(list, 77), spare(own, behind)
				for flow := -1; flow < 4; flow++ {
					want, e := Of(p, list, flow, own)
					if c, f := Of(q, l, flow, places); !slices.Equal(c, want) || e != f {
						t.Errorf("spare room of %s counts: %s, %d", before, shown(c), f)
					}
				}
				if !slices.Equal(l[:len(l)+2], append(slices.Clone(list), 77, 77)) || !slices.Equal(places[:len(own)+2], append(own, behind, behind)) {
					t.Errorf("%v became %v, or %v %v", list, l[:len(l)+2], own, places[:len(own)+2])
				}
			}
		}
		if after := whole(); after != before {
			t.Errorf("%s became %s", before, after)
		}
	}
	for _, words := range []string{"1 2 + 0@1 *", "1@0 0@0 0@1 if", "1 +", "1 2", "", "9@9"} {
		own, list := some(), code(t, words)
		places, l := spare(own, behind), spare(list, api.Instr{Op: api.ExAdd})
		want, ok := Check(own, list)
		if k, o := Check(places, l); k != want || o != ok {
			t.Error(words, k, o)
		}
		if !slices.Equal(l[:len(l)+2], append(list, api.Instr{Op: api.ExAdd}, api.Instr{Op: api.ExAdd})) || !slices.Equal(places[:len(places)+2], append(own, behind, behind)) {
			t.Error(words, l, places)
		}
	}
}

// R4: an answer that is changed, its spare room too, changes no other answer, nor what was handed in.
func TestAnswersAreNew(t *testing.T) {
	p := known(t)
	l := []int{0, 1, 2}
	before := fmt.Sprint(p, l)
	for flow, f := range p.Flows {
		places := placesOf(t, p, l, f.Station)
		one, _ := Of(p, l, flow, places)
		two, _ := Of(p, l, flow, places)
		want := slices.Clone(two)
		one = one[:cap(one)]
		for i := range one {
			one[i] = api.Instr{Op: api.ExMod, N: 9, Ago: 9}
		}
		three, e := Of(p, l, flow, places)
		if len(want) == 0 || !slices.Equal(two, want) || !slices.Equal(three, want) || e != api.OK {
			t.Error(flow, two, three, want)
		}
	}
	if after := fmt.Sprint(p, l); after != before {
		t.Errorf("%s became %s", before, after)
	}
}

// R4: what was answered stays as it was when what was handed in is changed then, the bytes of its names too.
func TestAnswersStay(t *testing.T) {
	bytes := []byte("abc")
	p := read(t, 2, "abc at 1", "f at 1 = abc + pre abc -> g", "g at 2 = 3")
	p.Ins[0].Name = unsafe.String(&bytes[0], len(bytes))
	l := []int{1, 0}
	places := placesOf(t, p, l, 1)
	c, e := Of(p, l, 0, places)
	want := code(t, "0@1 0@2 + 2@0 ->0")
	k, ok := Check(places, c)
	copy(bytes, "xyz")
	for i := range p.Flows {
		p.Flows[i].Body.Args = nil
		p.Flows[i] = api.Flow{}
	}
	for i := range places {
		places[i] = api.Place{}
	}
	l[0], l[1] = 500, 500
	if !slices.Equal(c, want) || e != api.OK || k != api.TyInt || !ok {
		t.Error(c, e, k, ok)
	}
	refuses(t, p, l, 0, places)
	no(t, places, c)
}

// R5: nothing is kept from one call to the next, whichever they are.
func TestNothingKept(t *testing.T) {
	p := known(t)
	q := read(t, 1, "x at 1", "u: bool at 1 = x < pre x")
	for range 3 {
		is(t, p, []int{0, 1, 2}, 0, "0 1@1 0@0 + ->0")
		refuses(t, p, []int{0, 1, 1}, 0, placesOf(t, p, []int{0, 1, 2}, 1))
		is(t, q, []int{3}, 0, "0@3 0@4 <")
		refuses(t, api.Prog{}, nil, 0, nil)
		is(t, p, []int{0, 1, 5}, 2, "3@3 0@5 +")
		no(t, some(), code(t, "1 2"))
		leaves(t, some(), code(t, "1"), api.TyInt)
		no(t, nil, code(t, "0@0"))
		leaves(t, some(), code(t, "1@0"), api.TyBool)
	}
	p.Flows[0].Body = api.Expr{Op: api.ExName, Name: "x"}
	is(t, p, []int{0, 1, 2}, 0, "0@0")
}

// R5: calls at the same time do not disturb each other.
func TestAtOnce(t *testing.T) {
	p, q := known(t), read(t, 1, "x at 1", "u: bool at 1 = x < pre x")
	l := []int{0, 1, 2}
	places, wide := placesOf(t, p, l, 1), some()
	c := code(t, "1@0 0@0 0@1 if "+strings.Repeat("neg ", 300))
	var group sync.WaitGroup
	for range 8 {
		group.Go(func() {
			for range 50 {
				is(t, p, l, 0, "0 1@1 0@0 + ->0")
				is(t, q, []int{3}, 0, "0@3 0@4 <")
				refuses(t, q, l, 0, places)
				leaves(t, wide, c, api.TyInt)
				no(t, wide[:1], c)
			}
		})
	}
	group.Wait()
}
