package machine

import (
	"fmt"
	"math"
	"slices"
	"strconv"
	"strings"
	"testing"

	"belfry/api"
)

// opOf tells the operators that these tests write as words.
func opOf(word string) api.Op {
	return map[string]api.Op{
		"neg": api.ExNeg, "not": api.ExNot, "+": api.ExAdd, "-": api.ExSub, "*": api.ExMul, "/": api.ExDiv, "%": api.ExMod,
		"==": api.ExEq, "!=": api.ExNe, "<": api.ExLt, "<=": api.ExLe, "and": api.ExAnd, "or": api.ExOr, "if": api.ExIf,
	}[word]
}

// words tells the instructions of words: 5, true, false, 3@2 for what is at place 3, 2 rounds ago, ->1 for ExThen with an Ago of 1, the other operators as they are written, and neg.
func words(t *testing.T, s string) []api.Instr {
	t.Helper()
	var l []api.Instr
	number := func(s string) int {
		n, err := strconv.Atoi(s)
		if err != nil {
			t.Fatal(err)
		}
		return n
	}
	for _, word := range strings.Fields(s) {
		place, ago, name := strings.Cut(word, "@")
		then, isThen := strings.CutPrefix(word, "->")
		switch {
		case word == "true":
			l = append(l, api.Instr{Op: api.ExBool, N: 1})
		case word == "false":
			l = append(l, api.Instr{Op: api.ExBool})
		case name:
			l = append(l, api.Instr{Op: api.ExName, N: int64(number(place)), Ago: number(ago)})
		case isThen:
			l = append(l, api.Instr{Op: api.ExThen, Ago: number(then)})
		case opOf(word) != api.ExNone:
			l = append(l, api.Instr{Op: opOf(word)})
		default:
			l = append(l, api.Instr{Op: api.ExInt, N: int64(number(word))})
		}
	}
	return l
}

// What places are, told shortly: number and truth are the station's own, far ones come over the bus from the station 2.
func number(name string, keep int) api.Place {
	return api.Place{Name: name, Type: api.TyInt, Keep: keep}
}

func truth(name string, keep int) api.Place {
	return api.Place{Name: name, Type: api.TyBool, Keep: keep}
}

func far(p api.Place, instead int64) api.Place {
	p.Far, p.From, p.Default = true, 2, instead
	return p
}

// job tells one of a place, by words.
func job(t *testing.T, place, late int, s string) api.Job {
	t.Helper()
	return api.Job{Place: place, Late: late, Code: words(t, s)}
}

// shown tells something, but not all of it.
func shown(x any) string { return fmt.Sprintf("%.600s", fmt.Sprintf("%+v", x)) }

// made tells a machine of a station that may be.
func made(t *testing.T, s api.Station) *Machine {
	t.Helper()
	m, e := New(s)
	if m == nil || e != api.OK {
		t.Fatalf("New(%s) = %v, %d", shown(s), m, e)
	}
	return m
}

// row tells numbers as a list.
func row(l ...int64) []int64 { return l }

// sends asks Step for what is sent.
func sends(t *testing.T, m *Machine, ins, came []int64, want ...int64) {
	t.Helper()
	round := m.Round()
	if sent, e := m.Step(ins, came); !slices.Equal(sent, want) || e != api.OK {
		t.Errorf("round %d: Step(%v, %v) = %s, %d, want %s", round, ins, came, shown(sent), e, shown(want))
	}
	if m.Round() != round+1 {
		t.Errorf("Round = %d behind %d", m.Round(), round)
	}
}

// refuses asks Step for an error, and nothing beside it.
func refuses(t *testing.T, m *Machine, ins, came []int64, want api.Errno) {
	t.Helper()
	round := m.Round()
	if sent, e := m.Step(ins, came); len(sent) != 0 || e != want || m.Round() != round {
		t.Errorf("Step(%v, %v) = %v, %d, want %d; %d became %d", shown(ins), shown(came), sent, e, want, round, m.Round())
	}
}

// has asks Value for the values of a place, from the last round's on, the oldest one last.
func has(t *testing.T, m *Machine, place int, want ...int64) {
	t.Helper()
	for ago, n := range want {
		if v, e := m.Value(place, ago); v != n || e != api.OK {
			t.Errorf("Value(%d, %d) = %d, %d, want %d", place, ago, v, e, n)
		}
	}
}

// hasNot asks Value for an error, and nothing beside it.
func hasNot(t *testing.T, m *Machine, place, ago int, want api.Errno) {
	t.Helper()
	if v, e := m.Value(place, ago); v != 0 || e != want {
		t.Errorf("Value(%d, %d) = %d, %d, want %d", place, ago, v, e, want)
	}
}

// The chapter's examples: x keeps 2, s = 0 -> pre s + x keeps 1, u = t + x, two rounds late, t is far; s is sent.
func TestExamples(t *testing.T) {
	m := made(t, api.Station{
		Places: []api.Place{number("x", 2), number("s", 1), number("u", 0), far(number("t", 0), 0)},
		Ins:    []int{0},
		Jobs:   []api.Job{job(t, 1, 0, "0 1@1 0@0 + ->0"), job(t, 2, 2, "3@0 0@2 +")},
		Sends:  []int{1},
	})
	sends(t, m, row(3), row(0), 0)
	sends(t, m, row(4), row(0), 4)
	sends(t, m, row(5), row(3), 9)
	has(t, m, 1, 9, 4)
	has(t, m, 2, 6)
	refuses(t, m, nil, row(0), api.ErrArg)
	if m.Round() != 3 {
		t.Error(m.Round())
	}
}

// alone tells what a job leaves at round 0, of numbers a, b and c, at the places 0 to 2, and of p and q, yes and no, at 3 and 4.
func alone(t *testing.T, s string, left api.Type, ins ...int64) int64 {
	t.Helper()
	m := made(t, api.Station{
		Places: []api.Place{number("a", 0), number("b", 0), number("c", 0), truth("p", 0), truth("q", 0), {Name: "x", Type: left}},
		Ins:    []int{0, 1, 2, 3, 4},
		Jobs:   []api.Job{job(t, 5, 0, s)},
		Sends:  []int{5},
	})
	sent, e := m.Step(ins, nil)
	if len(sent) != 1 || e != api.OK {
		t.Fatal(s, sent, e)
	}
	return sent[0]
}

// P18.2: what each instruction leaves.
func TestInstructions(t *testing.T) {
	for _, c := range []struct {
		words string
		left  api.Type
		want  int64
	}{
		{"5", api.TyInt, 5}, {"-9223372036854775808", api.TyInt, math.MinInt64}, {"9223372036854775807", api.TyInt, math.MaxInt64},
		{"true", api.TyBool, 1}, {"false", api.TyBool, 0},
		{"0@0", api.TyInt, -7}, {"1@0", api.TyInt, 2}, {"2@0", api.TyInt, math.MinInt64}, {"3@0", api.TyBool, 1}, {"4@0", api.TyBool, 0},
		{"0@0 neg", api.TyInt, 7}, {"2@0 neg", api.TyInt, math.MinInt64}, {"3@0 not", api.TyBool, 0}, {"4@0 not", api.TyBool, 1},
		{"0@0 1@0 +", api.TyInt, -5}, {"0@0 1@0 -", api.TyInt, -9}, {"1@0 0@0 -", api.TyInt, 9}, {"0@0 1@0 *", api.TyInt, -14},
		{"0@0 1@0 /", api.TyInt, -3}, {"0@0 1@0 %", api.TyInt, -1}, {"1@0 0@0 /", api.TyInt, 0}, {"1@0 0@0 %", api.TyInt, 2},
		{"0@0 0 /", api.TyInt, 0}, {"0@0 0 %", api.TyInt, 0}, {"2@0 -1 /", api.TyInt, math.MinInt64}, {"2@0 -1 %", api.TyInt, 0},
		{"2@0 1 -", api.TyInt, math.MaxInt64}, {"2@0 2@0 +", api.TyInt, 0}, {"2@0 3 *", api.TyInt, math.MinInt64},
		{"0@0 1@0 ==", api.TyBool, 0}, {"0@0 0@0 ==", api.TyBool, 1}, {"3@0 4@0 ==", api.TyBool, 0}, {"4@0 false ==", api.TyBool, 1},
		{"0@0 1@0 !=", api.TyBool, 1}, {"0@0 0@0 !=", api.TyBool, 0}, {"3@0 4@0 !=", api.TyBool, 1}, {"4@0 false !=", api.TyBool, 0},
		{"0@0 1@0 <", api.TyBool, 1}, {"1@0 0@0 <", api.TyBool, 0}, {"1@0 1@0 <", api.TyBool, 0},
		{"0@0 1@0 <=", api.TyBool, 1}, {"1@0 0@0 <=", api.TyBool, 0}, {"1@0 1@0 <=", api.TyBool, 1},
		{"3@0 4@0 and", api.TyBool, 0}, {"3@0 3@0 and", api.TyBool, 1}, {"3@0 4@0 or", api.TyBool, 1}, {"4@0 4@0 or", api.TyBool, 0},
		{"3@0 0@0 1@0 if", api.TyInt, -7}, {"4@0 0@0 1@0 if", api.TyInt, 2}, {"3@0 3@0 4@0 if", api.TyBool, 1}, {"4@0 3@0 4@0 if", api.TyBool, 0},
		{"0@0 1@0 ->0", api.TyInt, -7}, {"3@0 4@0 ->32", api.TyBool, 1},
		{"0@0 1@0 2@0 - *", api.TyInt, math.MaxInt64 - 13}, {"100 20 3 - -", api.TyInt, 83}, {"100 20 - 3 -", api.TyInt, 77},
		{"9 3@0 4@0 or 1@0 2@0 if neg /", api.TyInt, -4},
	} {
		if n := alone(t, c.words, c.left, -7, 2, math.MinInt64, 1, 0); n != c.want {
			t.Errorf("%s leaves %d, want %d", c.words, n, c.want)
		}
	}
}

// P18.2: as many instructions as there may be, most of them waiting.
func TestDeepPile(t *testing.T) {
	for count := 1; count <= 400; count += 133 {
		s := strings.Repeat("3 ", count-1) + "10 " + strings.Repeat("- ", count-1)
		want := int64(10)
		if count%2 == 0 {
			want = 3 - 10
		}
		if n := alone(t, s, api.TyInt, 0, 0, 0, 0, 0); n != want {
			t.Error(count, n, want)
		}
	}
	if n := alone(t, "1"+strings.Repeat(" 2 +", 399), api.TyInt, 0, 0, 0, 0, 0); n != 799 {
		t.Error(n)
	}
}

// P18.2: ExThen asks whether, so many instants ago, it was the beginning, or ahead of it; the instant is the round less Late.
func TestThen(t *testing.T) {
	for _, late := range []int{0, 1, 3, 1000} {
		var s api.Station
		agos := []int{0, 1, 2, 31, 32}
		for i, ago := range agos {
			s.Places = append(s.Places, number(fmt.Sprint("x", i), 0))
			s.Jobs = append(s.Jobs, job(t, i, late, fmt.Sprint("7 9 ->", ago)))
			s.Sends = append(s.Sends, i)
		}
		m := made(t, s)
		for round := range late + 40 {
			var want []int64
			for _, ago := range agos {
				n := int64(9)
				if round < late {
					n = 0
				} else if round-late-ago <= 0 {
					n = 7
				}
				want = append(want, n)
			}
			sends(t, m, nil, nil, want...)
		}
	}
}

// P18.2: 0 is at a job's place, as long as the round is below Late, also where it is no number, or else would be.
func TestLate(t *testing.T) {
	m := made(t, api.Station{
		Places: []api.Place{number("x", 3), truth("y", 1), number("z", 0), number("count", 1)},
		Jobs:   []api.Job{job(t, 0, 2, "5"), job(t, 1, 3, "true"), job(t, 2, 0, "0@0 0@1 10 * + 0@2 100 * +"), job(t, 3, 1, "3@1 1 +")},
		Sends:  []int{0, 1, 2, 3},
	})
	sends(t, m, nil, nil, 0, 0, 0, 0)
	sends(t, m, nil, nil, 0, 0, 0, 1)
	sends(t, m, nil, nil, 5, 0, 5, 2)
	sends(t, m, nil, nil, 5, 1, 55, 3)
	sends(t, m, nil, nil, 5, 1, 555, 4)
	has(t, m, 0, 5, 5, 5, 0)
	has(t, m, 1, 1, 1)
}

// P18.2: of this round, ahead of its job, 0 is at a place, whatever was there ahead of it; behind its job what that left.
func TestAheadOfItsJob(t *testing.T) {
	m := made(t, api.Station{
		Places: []api.Place{number("in", 1), number("first", 1), number("second", 1), number("own", 0), truth("yes", 0)},
		Ins:    []int{0},
		Jobs:   []api.Job{job(t, 3, 0, "3@0 1 +"), job(t, 1, 0, "2@0 100 * 2@1 + 10 * 0@0 +"), job(t, 2, 0, "1@0 1@1 1000 * +"), job(t, 4, 0, "4@0 not")},
		Sends:  []int{1, 2, 3, 4},
	})
	sends(t, m, row(1), nil, 1, 1, 1, 1)
	sends(t, m, row(2), nil, 12, 1012, 1, 1)
	sends(t, m, row(3), nil, 10123, 22123, 1, 1)
}

// P18.2: jobs are done in their own order, not in that of their places or of what they need.
func TestJobsInOrder(t *testing.T) {
	places := []api.Place{number("a", 0), number("b", 0), number("c", 0)}
	l := []api.Job{job(t, 0, 0, "1@0 2@0 + 1 +"), job(t, 1, 0, "0@0 2@0 + 10 +"), job(t, 2, 0, "0@0 1@0 + 100 +")}
	for _, c := range []struct{ order, want []int64 }{
		{row(0, 1, 2), row(1, 11, 112)}, {row(0, 2, 1), row(1, 112, 101)}, {row(1, 0, 2), row(11, 10, 121)},
		{row(1, 2, 0), row(121, 10, 110)}, {row(2, 0, 1), row(101, 211, 100)}, {row(2, 1, 0), row(211, 110, 100)},
	} {
		m := made(t, api.Station{Places: places, Jobs: []api.Job{l[c.order[0]], l[c.order[1]], l[c.order[2]]}, Sends: []int{0, 1, 2}})
		sends(t, m, nil, nil, c.want...)
		sends(t, m, nil, nil, c.want...)
	}
}

// P18.2: ins are for the places of Ins, came for those that are far, in order, wherever either stand; what is sent stands as in Sends.
func TestWhichPlaces(t *testing.T) {
	s := api.Station{
		Places: []api.Place{far(number("f", 0), 8), number("j", 0), number("a", 1), far(truth("g", 1), 1), truth("b", 0), far(number("h", 0), 9), number("c", 0)},
		Ins:    []int{2, 4, 6},
		Jobs:   []api.Job{job(t, 1, 0, "3@0 0@0 5@0 if 2@1 +")},
		Sends:  []int{6, 1, 4, 2},
	}
	m := made(t, s)
	sends(t, m, row(10, 1, 30), row(50, 0, 60), 30, 60, 1, 10)
	sends(t, m, row(11, 0, 31), row(51, 1, 61), 31, 61, 0, 11)
	for place, want := range [][]int64{{51}, {61}, {11, 10}, {1, 0}, {0}, {61}, {31}} {
		has(t, m, place, want...)
	}
	for _, l := range [][]int{nil, {}, {1}, {2, 1}, {1, 2, 4, 6}, {6, 4, 2, 1}} {
		s.Sends = l
		var want []int64
		for _, place := range l {
			want = append(want, map[int]int64{1: 60, 2: 10, 4: 1, 6: 30}[place])
		}
		sends(t, made(t, s), row(10, 1, 30), row(50, 0, 60), want...)
	}
}

// P18.2, P18.3: ahead of round 0 each place has its Default, of what is not far 0, for instructions and for Value.
func TestAheadOfTheBeginning(t *testing.T) {
	m := made(t, api.Station{
		Places: []api.Place{far(number("f", 3), -6), far(truth("g", 2), 1), number("a", 2), number("j", 1), truth("k", 0)},
		Ins:    []int{2},
		Jobs:   []api.Job{job(t, 3, 0, "0@3 0@1 100 * + 2@2 10000 * + 3@1 +"), job(t, 4, 0, "1@2 1@1 and")},
		Sends:  []int{3, 4},
	})
	for place, want := range [][]int64{{-6, -6, -6, -6}, {1, 1, 1}, {0, 0, 0}, {0, 0}, {0}} {
		has(t, m, place, want...)
		hasNot(t, m, place, len(want), api.ErrArg)
	}
	sends(t, m, row(2), row(1, 0), -606, 1)
	sends(t, m, row(3), row(4, 1), -6+100-606, 0)
	sends(t, m, row(5), row(7, 1), -6+400+20000-512, 0)
	for place, want := range [][]int64{{7, 4, 1, -6}, {1, 1, 0}, {5, 3, 2}, {19882, -512}, {0}} {
		has(t, m, place, want...)
		hasNot(t, m, place, len(want), api.ErrArg)
	}
	sends(t, m, row(6), row(8, 1), 1+700+30000+19882, 1)
	has(t, m, 0, 8, 7, 4, 1)
}

// P18.2, P18.3: a place that is kept as long as may be, round by round, beside one that is not kept at all.
func TestKeptLongest(t *testing.T) {
	const keep = 4 * api.MaxLate
	m := made(t, api.Station{
		Places: []api.Place{far(number("f", keep), -1), number("j", 0), number("k", keep)},
		Jobs:   []api.Job{job(t, 1, 0, fmt.Sprint("0@", keep)), job(t, 2, 0, "2@1 1 +")},
		Sends:  []int{1, 2},
	})
	for round := range int64(2*keep + 100) {
		sends(t, m, nil, row(3*round), max(-1, 3*(round-keep)), round+1)
		if round%500 != 0 && round != keep-1 && round != keep+1 {
			continue
		}
		for ago := range int64(keep + 1) {
			want := int64(-1)
			if ago <= round {
				want = 3 * (round - ago)
			}
			if v, e := m.Value(0, int(ago)); v != want || e != api.OK {
				t.Fatal(round, ago, v, e, want)
			}
			if v, e := m.Value(2, int(ago)); v != max(0, round+1-ago) || e != api.OK {
				t.Fatal(round, ago, v, e)
			}
		}
		hasNot(t, m, 0, keep+1, api.ErrArg)
		hasNot(t, m, 1, 1, api.ErrArg)
	}
}

// P18.2, R2: lists of another length, and what is neither yes nor no, are refused, wherever it stands; nothing is changed by that.
func TestStepRefused(t *testing.T) {
	m := made(t, api.Station{
		Places: []api.Place{number("a", 1), truth("b", 1), far(number("f", 1), 5), far(truth("g", 1), 1), number("j", 1)},
		Ins:    []int{0, 1},
		Jobs:   []api.Job{job(t, 4, 0, "4@1 0@0 +")},
		Sends:  []int{4},
	})
	wrong := func() {
		t.Helper()
		for _, ins := range [][]int64{nil, {}, {1}, {1, 1, 1}, {0, 1, 0}, {1, 2}, {1, -1}, {1, math.MinInt64}, {1, math.MaxInt64}, {0, 256}, {0, 1 << 32}, make([]int64, 1<<16)} {
			refuses(t, m, ins, row(7, 1), api.ErrArg)
			refuses(t, m, ins, ins, api.ErrArg)
		}
		for _, came := range [][]int64{nil, {}, {1}, {1, 1, 1}, {0, 1, 0}, {1, 2}, {1, -1}, {1, math.MinInt64}, {1, math.MaxInt64}, {0, 256}, {0, 1 << 32}, make([]int64, 1<<16)} {
			refuses(t, m, row(100, 1), came, api.ErrArg)
		}
	}
	wrong()
	for place, want := range [][]int64{{0, 0}, {0, 0}, {5, 5}, {1, 1}, {0, 0}} {
		has(t, m, place, want...)
	}
	sends(t, m, row(3, 1), row(math.MinInt64, 0), 3)
	wrong()
	sends(t, m, row(4, 0), row(math.MaxInt64, 1), 7)
	wrong()
	for place, want := range [][]int64{{4, 3}, {0, 1}, {math.MaxInt64, math.MinInt64}, {1, 0}, {7, 3}} {
		has(t, m, place, want...)
	}
}

// P18.2, P18.3: a station of nothing has rounds, too, and one that only sends, or only hears.
func TestLittle(t *testing.T) {
	m := made(t, api.Station{})
	for range 3 {
		sends(t, m, nil, nil)
		refuses(t, m, row(0), nil, api.ErrArg)
		refuses(t, m, nil, row(0), api.ErrArg)
		hasNot(t, m, 0, 0, api.ErrArg)
	}
	m = made(t, api.Station{Places: []api.Place{number("a", 0)}, Ins: []int{0}, Sends: []int{0}})
	sends(t, m, row(5), nil, 5)
	sends(t, m, row(math.MinInt64), []int64{}, math.MinInt64)
	m = made(t, api.Station{Places: []api.Place{far(number("f", 0), 4)}})
	has(t, m, 0, 4)
	sends(t, m, nil, row(6))
	has(t, m, 0, 6)
}

// P18.3: places that are none, and agos that are not 0 to Keep, ahead of round 0 and behind it.
func TestValueRefused(t *testing.T) {
	m := made(t, api.Station{Places: []api.Place{number("a", 0), number("b", 2), far(truth("f", 4), 1)}, Ins: []int{0, 1}})
	for range 7 {
		for _, place := range []int{math.MinInt, -1 << 32, -2, -1, 3, 4, 512, 1 << 32, math.MaxInt} {
			for _, ago := range []int{-1, 0, 1} {
				hasNot(t, m, place, ago, api.ErrArg)
			}
		}
		for place, keep := range []int{0, 2, 4} {
			for _, ago := range []int{math.MinInt, -1 << 32, -2, -1, keep + 1, keep + 2, 2*keep + 1, 2*keep + 2, 1 << 32, math.MaxInt} {
				hasNot(t, m, place, ago, api.ErrArg)
			}
			if _, e := m.Value(place, keep); e != api.OK {
				t.Error(place, keep, e)
			}
		}
		sends(t, m, row(8, 9), row(1))
	}
}

// P18.2, P18.3, R3: of a machine that is not there ErrNil, whatever else is wrong, and nothing is done.
func TestNone(t *testing.T) {
	var none *Machine
	var zero Machine
	for _, m := range []*Machine{none, &zero, new(Machine), {}} {
		for _, l := range [][]int64{nil, {}, {0}, {2, 3}} {
			refuses(t, m, l, nil, api.ErrNil)
			refuses(t, m, nil, l, api.ErrNil)
		}
		for _, i := range []int{math.MinInt, -1, 0, 1, math.MaxInt} {
			hasNot(t, m, i, 0, api.ErrNil)
			hasNot(t, m, 0, i, api.ErrNil)
		}
		if m.Round() != 0 {
			t.Error(m.Round())
		}
	}
}

// R1: as many places as there may be, kept as long as may be, each with as many instructions as there may be.
func TestGreatest(t *testing.T) {
	var s api.Station
	sum := words(t, "0@1"+strings.Repeat(" 1@4000 +", 399)+" neg")
	var want []int64
	for i := range maxPlaces {
		s.Places = append(s.Places, number(fmt.Sprint("x", i), 4*api.MaxLate))
		s.Jobs = append(s.Jobs, api.Job{Place: maxPlaces - 1 - i, Code: sum})
		s.Sends = append(s.Sends, i)
	}
	s.Jobs[maxPlaces-1].Code = words(t, "0@1 1 +")
	m := made(t, s)
	for round := range int64(5) {
		want = append(row(round+1), slices.Repeat(row(-round), maxPlaces-1)...)
		sends(t, m, nil, nil, want...)
	}
	has(t, m, 0, 5, 4, 3, 2, 1, 0, 0)
	has(t, m, 511, -4, -3, -2, -1, 0, 0)
	hasNot(t, m, 512, 0, api.ErrArg)
}
