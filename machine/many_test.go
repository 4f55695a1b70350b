package machine

import (
	"fmt"
	"math"
	"slices"
	"testing"

	"belfry/api"
	"belfry/code"
	"belfry/cuts"
	"belfry/exprs"
	"belfry/flows"
	"belfry/late"
	"belfry/order"
	"belfry/values"
)

// chance tells numbers that look like chance and are the same in each run.
func chance(seed uint64) func(below int) int {
	return func(below int) int {
		seed = seed*6364136223846793005 + 1442695040888963407
		return int(seed >> 33 % uint64(below))
	}
}

// some tells a number that is a value of that type.
func some(next func(int) int, k api.Type) int64 {
	if k == api.TyBool {
		return int64(next(2))
	}
	return []int64{math.MinInt64, math.MaxInt64, -1, 0, 1, 2, 7, -300, int64(next(1 << 30))}[next(9)]
}

// codeOf tells instructions by chance that leave a type, at most so deep.
func codeOf(next func(int) int, places []api.Place, k api.Type, deep int) []api.Instr {
	var l []api.Instr
	if deep == 0 || next(4) == 0 {
		l = append(l, api.Instr{Op: api.Op(k), N: some(next, k)}) // since ExInt and ExBool are 1 and 2 as their types are
		for i, p := range places {
			if p.Type == k && next(3) > 0 {
				l[0] = api.Instr{Op: api.ExName, N: int64(i), Ago: next(p.Keep + 1)}
			}
		}
		return l
	}
	ops := []api.Op{api.ExIf, api.ExThen, api.ExNeg, api.ExAdd, api.ExSub, api.ExMul, api.ExDiv, api.ExMod}
	if k == api.TyBool {
		ops = []api.Op{api.ExIf, api.ExThen, api.ExNot, api.ExAnd, api.ExOr, api.ExEq, api.ExNe, api.ExLt, api.ExLe}
	}
	i := api.Instr{Op: ops[next(len(ops))]}
	for _, part := range partsOf(i.Op, k, api.Type(1+next(2))) {
		l = append(l, codeOf(next, places, part, deep-1)...)
	}
	if i.Op == api.ExThen {
		i.Ago = next(6)
	}
	return append(l, i)
}

// partsOf tells of which types an operator is that leaves the type k; where it is of either, of that one.
func partsOf(o api.Op, k, either api.Type) []api.Type {
	switch o {
	case api.ExIf:
		return []api.Type{api.TyBool, k, k}
	case api.ExThen, api.ExAnd, api.ExOr:
		return []api.Type{k, k}
	case api.ExNeg, api.ExNot:
		return []api.Type{k}
	case api.ExEq, api.ExNe:
		return []api.Type{either, either}
	}
	return []api.Type{api.TyInt, api.TyInt}
}

// shuffled tells the numbers below count, by chance.
func shuffled(next func(int) int, count int) []int {
	l := make([]int, count)
	for i := range l {
		l[i] = i
	}
	for i := range l {
		j := i + next(count-i)
		l[i], l[j] = l[j], l[i]
	}
	return l
}

// stationOf tells one by chance, with that many places.
func stationOf(next func(int) int, places int) api.Station {
	var s api.Station
	for i := range places {
		p := api.Place{Name: fmt.Sprint("p", i), Type: api.Type(1 + next(2)), Keep: next(6) * next(2)}
		if next(3) == 0 {
			p.Far, p.From, p.Default = true, 1+next(8), some(next, p.Type)
		}
		s.Places = append(s.Places, p)
	}
	for _, i := range shuffled(next, places) {
		p := s.Places[i]
		if !p.Far && next(3) == 0 {
			s.Ins = append(s.Ins, i)
		} else if !p.Far {
			s.Jobs = append(s.Jobs, api.Job{Place: i, Late: next(2) * next(6), Code: codeOf(next, s.Places, p.Type, next(6))})
		}
	}
	slices.Sort(s.Ins)
	for _, i := range shuffled(next, places) {
		if !s.Places[i].Far && next(2) == 0 {
			s.Sends = append(s.Sends, i)
		}
	}
	return s
}

// teller works rounds out in the chapter's words: it has the values of all rounds, at the last one those that are there.
type teller struct {
	s    api.Station
	rows [][]int64
}

// at tells what is at a place, so many rounds ago.
func (w *teller) at(place, ago int) int64 {
	if round := len(w.rows) - 1 - ago; round >= 0 {
		return w.rows[round][place]
	}
	return w.s.Places[place].Default
}

// left tells what instructions leave at an instant, from the last one on, and those that are left of them.
func (w *teller) left(l []api.Instr, instant int) (api.Value, []api.Instr) {
	i, rest := l[len(l)-1], l[:len(l)-1]
	switch i.Op {
	case api.ExInt, api.ExBool:
		return api.Value{Type: api.Type(i.Op), N: i.N}, rest
	case api.ExName:
		return api.Value{Type: w.s.Places[i.N].Type, N: w.at(int(i.N), i.Ago)}, rest
	}
	var parts []api.Value
	for range len(partsOf(i.Op, api.TyInt, api.TyInt)) {
		var v api.Value
		v, rest = w.left(rest, instant)
		parts = slices.Insert(parts, 0, v)
	}
	if i.Op == api.ExThen && instant-i.Ago <= 0 {
		return parts[0], rest
	} else if i.Op == api.ExThen {
		return parts[1], rest
	}
	v, _ := values.Do(i.Op, parts)
	return v, rest
}

// step tells what is sent behind another round.
func (w *teller) step(ins, came []int64) []int64 {
	row := make([]int64, len(w.s.Places))
	for i, place := range w.s.Ins {
		row[place] = ins[i]
	}
	for i, p := range w.s.Places {
		if p.Far {
			row[i], came = came[0], came[1:]
		}
	}
	w.rows = append(w.rows, row)
	round := len(w.rows) - 1
	for _, j := range w.s.Jobs {
		if round >= j.Late {
			v, _ := w.left(j.Code, round-j.Late)
			row[j.Place] = v.N
		}
	}
	var sent []int64
	for _, place := range w.s.Sends {
		sent = append(sent, row[place])
	}
	return sent
}

// handed tells what a round of a station is given, by chance.
func handed(next func(int) int, s api.Station) (ins, came []int64) {
	for _, place := range s.Ins {
		ins = append(ins, some(next, s.Places[place].Type))
	}
	for _, p := range s.Places {
		if p.Far {
			came = append(came, some(next, p.Type))
		}
	}
	return ins, came
}

// hasAll holds each place's values against what they should be.
func hasAll(t *testing.T, m *Machine, w *teller) {
	t.Helper()
	for i, p := range w.s.Places {
		for ago := range p.Keep + 1 {
			if v, e := m.Value(i, ago); v != w.at(i, ago) || e != api.OK {
				t.Errorf("%s: round %d: Value(%d, %d) = %d, %d, want %d", shown(w.s), len(w.rows), i, ago, v, e, w.at(i, ago))
			}
		}
		hasNot(t, m, i, p.Keep+1, api.ErrArg)
	}
}

// P18.1 to P18.3: many stations by chance, each through some rounds.
func TestMany(t *testing.T) {
	next := chance(18)
	instructions := 0
	for range 1500 {
		s := stationOf(next, next(9))
		m, e := New(s)
		if e != api.OK {
			if slices.ContainsFunc(s.Jobs, func(j api.Job) bool { return len(j.Code) > 4*api.MaxSize }) {
				continue
			}
			t.Fatal(shown(s), e)
		}
		w := teller{s: s}
		hasAll(t, m, &w)
		for range 1 + next(16) {
			ins, came := handed(next, s)
			want := w.step(ins, came)
			sends(t, m, ins, came, want...)
			hasAll(t, m, &w)
		}
		for _, j := range s.Jobs {
			instructions += len(j.Code)
		}
	}
	if instructions < 10000 {
		t.Error(instructions)
	}
}

// mayBeTold tells whether a station may be, in the chapter's words.
func mayBeTold(s api.Station) bool {
	own := func(i int) bool { return i >= 0 && i < len(s.Places) && !s.Places[i].Far }
	filled := map[int]int{}
	for i, p := range s.Places {
		isBool, isInt := p.Type == api.TyBool, p.Type == api.TyInt
		if !isBool && !isInt || p.Keep < 0 || p.Keep > 4*api.MaxLate || p.Name == "" || len(p.Name) > api.MaxName {
			return false
		}
		for _, q := range s.Places[:i] {
			if q.Name == p.Name {
				return false
			}
		}
		if p.Far && (p.From < 1 || p.From > api.MaxStations || isBool && p.Default != 0 && p.Default != 1) || !p.Far && (p.From != 0 || p.Default != 0) {
			return false
		}
	}
	for i, place := range s.Ins {
		if filled[place]++; !own(place) || i > 0 && s.Ins[i-1] >= place {
			return false
		}
	}
	for _, j := range s.Jobs {
		filled[j.Place]++
		if k, ok := code.Check(s.Places, j.Code); !own(j.Place) || !ok || k != s.Places[j.Place].Type || j.Late < 0 || j.Late > api.MaxLate {
			return false
		}
	}
	for i, place := range s.Sends {
		if !own(place) || slices.Contains(s.Sends[:i], place) {
			return false
		}
	}
	for i := range s.Places {
		if own(i) && filled[i] != 1 {
			return false
		}
	}
	return len(s.Places) <= 512
}

// changed tells a station in which something is other than it was.
func changed(next func(int) int, s api.Station) api.Station {
	s = copied(s)
	about := func(n int) int {
		return []int{n - 1, n + 1, -n, 0, 1, 2, next(10), api.MaxLate, api.MaxLate + 1, math.MaxInt, math.MinInt}[next(11)]
	}
	if p := next(len(s.Places) + 1); p < len(s.Places) {
		switch place := &s.Places[p]; next(7) {
		case 0:
			place.Name = s.Places[next(len(s.Places))].Name
		case 1:
			place.Type = api.Type(next(4))
		case 2:
			place.Keep = about(place.Keep)
		case 3:
			place.Far = !place.Far
		case 4:
			place.From = about(place.From)
		case 5:
			place.Default = int64(about(int(place.Default)))
		case 6:
			s.Places = slices.Delete(s.Places, p, p+1)
		}
		return s
	}
	if j := next(len(s.Jobs) + 1); j < len(s.Jobs) {
		switch l := s.Jobs[j].Code; next(5) {
		case 0:
			s.Jobs[j].Place = about(s.Jobs[j].Place)
		case 1:
			s.Jobs[j].Late = about(s.Jobs[j].Late)
		case 2:
			l[next(len(l))].Ago++
		case 3:
			l[next(len(l))].N++
		case 4:
			l[next(len(l))].Op = api.Op(next(22))
		}
		return s
	}
	list := &s.Ins
	if next(2) == 0 {
		list = &s.Sends
	}
	if i := next(len(*list) + 1); i < len(*list) && next(2) == 0 {
		(*list)[i] = about((*list)[i])
	} else {
		*list = slices.Insert(*list, i, next(8))
	}
	return s
}

// P18.1, R1: stations by chance with something, or two things, other than they were: those that may be have rounds, the others are refused.
func TestManyChanged(t *testing.T) {
	next := chance(19)
	yes, nay := 0, 0
	for range 12000 {
		s := changed(next, stationOf(next, 1+next(6)))
		if next(3) == 0 {
			s = changed(next, s)
		}
		m, e := New(s)
		if want := mayBeTold(s); want != (e == api.OK) || want != (m != nil) || !want && e != api.ErrArg {
			t.Fatal(shown(s), m != nil, e)
		} else if !want {
			nay++
			continue
		}
		yes++
		w := teller{s: s}
		for range 3 {
			ins, came := handed(next, s)
			want := w.step(ins, came)
			sends(t, m, ins, came, want...)
			hasAll(t, m, &w)
		}
	}
	if yes < 2000 || nay < 4000 {
		t.Error(yes, nay)
	}
}

// bodyOf tells what a flow is, of those that come from without and of the flows ahead of it, an instant ago also of all others.
func bodyOf(next func(int) int, p api.Prog, k api.Type, deep, before int, past bool) api.Expr {
	if deep == 0 || next(5) == 0 {
		var l []api.Expr
		for _, in := range p.Ins {
			if in.Type == k {
				l = append(l, api.Expr{Op: api.ExName, Name: in.Name})
			}
		}
		for i, f := range p.Flows {
			if f.Type == k && (i < before || past) {
				l = append(l, api.Expr{Op: api.ExName, Name: f.Name})
			}
		}
		if len(l) == 0 || next(6) == 0 {
			return api.Expr{Op: api.Op(k), N: int64(next(2))}
		}
		return l[next(len(l))]
	}
	if next(3) == 0 {
		return api.Expr{Op: api.ExThen, Args: []api.Expr{bodyOf(next, p, k, deep-1, before, past), {Op: api.ExPre, Args: []api.Expr{bodyOf(next, p, k, deep-1, before, true)}}}}
	}
	ops := []api.Op{api.ExIf, api.ExThen, api.ExNeg, api.ExAdd, api.ExSub, api.ExMul, api.ExDiv, api.ExMod}
	if k == api.TyBool {
		ops = []api.Op{api.ExIf, api.ExThen, api.ExNot, api.ExAnd, api.ExOr, api.ExEq, api.ExNe, api.ExLt, api.ExLe}
	}
	x := api.Expr{Op: ops[next(len(ops))]}
	for _, part := range partsOf(x.Op, k, api.Type(1+next(2))) {
		x.Args = append(x.Args, bodyOf(next, p, part, deep-1, before, past))
	}
	return x
}

// progOf tells a program by chance, in which no flow lacks a beginning.
func progOf(next func(int) int) api.Prog {
	p := api.Prog{Stations: 1 + next(4)}
	for i := range next(4) {
		p.Ins = append(p.Ins, api.In{Name: fmt.Sprint("i", i), Type: api.Type(1 + next(2)), Station: 1 + next(p.Stations)})
	}
	for i := range 1 + next(7) {
		p.Flows = append(p.Flows, api.Flow{Name: fmt.Sprint("f", i), Type: api.Type(1 + next(2)), Station: 1 + next(p.Stations), Default: int64(next(2))})
	}
	for i, f := range p.Flows {
		p.Flows[i].Body = bodyOf(next, p, f.Type, next(5), i, false)
	}
	return p
}

// laid tells a program's stations.
func laid(t *testing.T, p api.Prog, l []int) []api.Station {
	t.Helper()
	var all []api.Station
	for station := 1; station <= p.Stations; station++ {
		var s api.Station
		s.Places, _ = cuts.Places(p, l, station)
		placeOf := func(name string) int {
			return slices.IndexFunc(s.Places, func(place api.Place) bool { return place.Name == name })
		}
		for _, in := range p.Ins {
			if in.Station == station {
				s.Ins = append(s.Ins, placeOf(in.Name))
			}
		}
		for _, name := range cuts.Sends(p, station) {
			s.Sends = append(s.Sends, placeOf(name))
		}
		var own []int
		for i, f := range p.Flows {
			if f.Station == station {
				own = append(own, i)
			}
		}
		ahead := make([][]int, len(own))
		for i, flow := range own {
			for _, r := range exprs.Refs(p.Flows[flow].Body) {
				other := slices.IndexFunc(own, func(o int) bool { return p.Flows[o].Name == r.Name })
				if age, e := late.Age(p, l, flow, r); other >= 0 && age == 0 && e == api.OK {
					ahead[i] = append(ahead[i], other)
				}
			}
		}
		sorted, e := order.Of(ahead)
		if e != api.OK {
			t.Fatal(shown(p), e)
		}
		for _, i := range sorted {
			c, _ := code.Of(p, l, own[i], s.Places)
			s.Jobs = append(s.Jobs, api.Job{Place: placeOf(p.Flows[own[i]].Name), Late: l[own[i]], Code: c})
		}
		all = append(all, s)
	}
	return all
}

// run steps a program's stations through rounds, of rows for all its Ins, and tells each flow's value in each round.
func run(t *testing.T, p api.Prog, stations []api.Station, rows [][]int64) [][]int64 {
	t.Helper()
	var machines []*Machine
	for _, s := range stations {
		machines = append(machines, made(t, s))
	}
	var all [][]int64
	sent := map[string]int64{}
	for _, row := range rows {
		now := map[string]int64{}
		values := map[string]int64{}
		for i, s := range stations {
			var ins, came []int64
			for j, in := range p.Ins {
				if in.Station == i+1 {
					ins = append(ins, row[j])
				}
			}
			for _, place := range s.Places {
				if n, ok := sent[place.Name]; place.Far && ok {
					came = append(came, n)
				} else if place.Far {
					came = append(came, place.Default)
				}
			}
			l, e := machines[i].Step(ins, came)
			if len(l) != len(s.Sends) || e != api.OK {
				t.Fatal(shown(s), l, e)
			}
			for j, place := range s.Sends {
				now[s.Places[place].Name] = l[j]
			}
			for place, x := range s.Places {
				if !x.Far {
					values[x.Name], _ = machines[i].Value(place, 0)
				}
			}
		}
		var told []int64
		for _, f := range p.Flows {
			told = append(told, values[f.Name])
		}
		all, sent = append(all, told), now
	}
	return all
}

// P0.1: what stations work out of a flow at a round is what the program means by it, as many instants ago as it is late.
func TestMeaning(t *testing.T) {
	next := chance(20)
	programs, lates := 0, 0
	for range 900 {
		p := progOf(next)
		var rows [][]int64
		for range 12 {
			var row []int64
			for _, in := range p.Ins {
				row = append(row, some(next, in.Type))
			}
			rows = append(rows, row)
		}
		means, e := flows.Run(p, rows)
		l, f := late.Of(p)
		if e != api.OK || f != api.OK {
			continue
		}
		more := slices.Clone(l)
		more[next(len(l))] += next(3)
		if late.Check(p, more) {
			l = more
		}
		programs++
		all := run(t, p, laid(t, p, l), rows)
		for flow := range p.Flows {
			lates += l[flow]
			for round := range rows {
				want := int64(0)
				if round >= l[flow] {
					want = means[round-l[flow]][flow]
				}
				if all[round][flow] != want {
					t.Fatal(shown(p), l, flow, round, all[round][flow], want)
				}
			}
		}
	}
	if programs < 400 || lates < 500 {
		t.Error(programs, lates)
	}
}

// copied tells the same in memory of its own.
func copied(s api.Station) api.Station {
	s.Places, s.Ins, s.Jobs, s.Sends = slices.Clone(s.Places), slices.Clone(s.Ins), slices.Clone(s.Jobs), slices.Clone(s.Sends)
	for i, j := range s.Jobs {
		s.Jobs[i].Code = slices.Clone(j.Code)
	}
	return s
}
