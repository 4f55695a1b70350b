package progs

import (
	"fmt"
	"math"
	"math/big"
	"regexp"
	"slices"
	"strings"
	"sync"
	"testing"
	"unsafe"

	"belfry/api"
	"belfry/exprs"
	"belfry/tokens"
)

const (
	languageWords = "stations in at flow default out if then else pre and or not true false int bool"
	allSigns      = "<= == != -> ( ) : ; , = + - * / % <"
	most          = "9223372036854775807"
	tooMuch       = "9223372036854775808"
	example       = "stations 2; flow x: bool at 2 default true = not y; in y: bool at 1; out x;"
)

var (
	longest = strings.Repeat("n", api.MaxName)
	tooLong = longest + "n"
	noNames = append(strings.Fields(languageWords), "", "_", "_a", "1", "1a", "a b", "a ", " a", "a-b", "a.b", "é", "aé", "a\x00", "\xff", "a\n", ";", "a;", tooLong, strings.Repeat("a", 1<<20))
)

func v(name string) api.Expr  { return api.Expr{Op: api.ExName, Name: name} }
func n(number int64) api.Expr { return api.Expr{Op: api.ExInt, N: number} }

func of(op api.Op, parts ...api.Expr) api.Expr { return api.Expr{Op: op, Args: slices.Clone(parts)} }

func in(name string, t api.Type, station int) api.In {
	return api.In{Name: name, Type: t, Station: station}
}

func flow(name string, t api.Type, station int, value int64, body api.Expr) api.Flow {
	return api.Flow{Name: name, Type: t, Station: station, Default: value, Body: body}
}

// exampleProg tells the program of the chapter's example.
func exampleProg() api.Prog {
	return api.Prog{
		Stations: 2,
		Ins:      []api.In{in("y", api.TyBool, 1)},
		Flows:    []api.Flow{flow("x", api.TyBool, 2, 1, of(api.ExNot, v("y")))},
		Outs:     []string{"x"},
	}
}

// ins tells that many Ins that may be.
func ins(count int) []api.In {
	l := []api.In{}
	for i := range count {
		l = append(l, in(fmt.Sprint("i", i), api.TyInt, 1))
	}
	return l
}

// flows tells that many Flows that may be.
func flows(count int) []api.Flow {
	l := []api.Flow{}
	for i := range count {
		l = append(l, flow(fmt.Sprint("f", i), api.TyInt, 1, 0, n(1)))
	}
	return l
}

// sameBody and same hold two against each other; a list that is empty and one that is nil mean the same.
func sameBody(x, y api.Expr) bool {
	return x.Op == y.Op && x.N == y.N && x.Name == y.Name && slices.EqualFunc(x.Args, y.Args, sameBody)
}

func same(p, q api.Prog) bool {
	return p.Stations == q.Stations && slices.Equal(p.Ins, q.Ins) && slices.Equal(p.Outs, q.Outs) &&
		slices.EqualFunc(p.Flows, q.Flows, func(f, g api.Flow) bool {
			return f.Name == g.Name && f.Type == g.Type && f.Station == g.Station && f.Default == g.Default && sameBody(f.Body, g.Body)
		})
}

func isZero(p api.Prog) bool {
	return p.Stations == 0 && p.Ins == nil && p.Flows == nil && p.Outs == nil
}

// reads asks Parse of a text for a program.
func reads(t *testing.T, s string, want api.Prog) {
	t.Helper()
	if p, at, e := Parse(s); !same(p, want) || at != 0 || e != api.OK {
		t.Errorf("Parse(%.100q) = %v, %d, %d, want %v", s, p, at, e, want)
	}
}

// refuses asks Parse of a text for an error and its place, and for nothing beside them.
func refuses(t *testing.T, s string, at int, want api.Errno) {
	t.Helper()
	if p, got, e := Parse(s); !isZero(p) || got != at || e != want {
		t.Errorf("Parse(%.100q) = %.200s, %d, %d, want error %d at %d", s, fmt.Sprint(p), got, e, want, at)
	}
}

// refusesAt asks for an error at the only place of a mark in a text, which is not part of what is read.
func refusesAt(t *testing.T, s string, want api.Errno) {
	t.Helper()
	ahead, behind, ok := strings.Cut(s, "@")
	if !ok {
		t.Fatalf("%q has no mark", s)
	}
	refuses(t, ahead+behind, len(ahead), want)
}

// writes asks Text for a text, and Parse of that for what was written.
func writes(t *testing.T, p api.Prog, want string) {
	t.Helper()
	if s, e := Text(p); s != want || e != api.OK {
		t.Errorf("Text(%v) = %.200q, %d, want %.200q", p, s, e, want)
	}
	reads(t, want, p)
	if !Check(p) {
		t.Errorf("Check(%v) is false", p)
	}
}

// answers asks Check whether it may be, and Text for ErrArg if not.
func answers(t *testing.T, p api.Prog, want bool) {
	t.Helper()
	s, e := Text(p)
	if Check(p) != want || (e != api.ErrArg) != want || (s != "") != (e == api.OK) {
		t.Errorf("Check = %t, Text = %.60q, %d of %.300s", Check(p), s, e, fmt.Sprint(p))
	}
}

// chance tells numbers that look like chance and are the same in each run.
func chance(seed uint64) func(below int) int {
	return func(below int) int {
		seed = seed*6364136223846793005 + 1442695040888963407
		return int(seed >> 33 % uint64(below))
	}
}

type outcome struct {
	p  api.Prog
	at int
	e  api.Errno
}

// forms of lines, as the chapter has them.
var forms = map[string]string{
	"stations": "stations N ;",
	"in":       "in NAME : TYPE at N ;",
	"flow":     "flow NAME : TYPE at N default VALUE = BODY ;",
	"out":      "out NAME ;",
}

var (
	nameForm   = regexp.MustCompile(`^[A-Za-z][A-Za-z0-9_]{0,39}$`)
	numberForm = regexp.MustCompile(`^(0|[1-9][0-9]*)$`)
)

func isName(s string) bool {
	return nameForm.MatchString(s) && !strings.HasSuffix(s, "\n") && !slices.Contains(strings.Fields(languageWords), s)
}

// row holds what stands in a line.
type row struct {
	name   string
	t      api.Type
	n      int64
	value  int64
	body   api.Expr
	tokens []api.Token
	at     int
	e      api.Errno
}

func (r *row) text() string {
	if r.at < len(r.tokens) {
		return r.tokens[r.at].Text
	}
	return ""
}

func (r *row) step(ok bool) {
	if ok {
		r.at++
	} else {
		r.e = api.ErrForm
	}
}

func (r *row) number() int64 {
	if !numberForm.MatchString(r.text()) {
		r.e = api.ErrForm
		return 0
	}
	whole, _ := new(big.Int).SetString(r.text(), 10)
	if !whole.IsInt64() {
		r.e = api.ErrLimit
		return 0
	}
	r.at++
	return whole.Int64()
}

// take goes on by what one word of a form asks for.
func (r *row) take(slot string) {
	switch slot {
	case "NAME":
		r.name = r.text()
		r.step(isName(r.name))
	case "TYPE":
		r.t = map[string]api.Type{"int": api.TyInt, "bool": api.TyBool}[r.text()]
		r.step(r.t != api.TyNone)
	case "N":
		r.n = r.number()
	case "VALUE":
		sign := int64(1)
		switch r.text() {
		case "true", "false":
			r.value = map[string]int64{"true": 1}[r.text()]
			r.at++
			return
		case "-":
			sign = -1
			r.at++
		}
		r.value = sign * r.number()
	case "BODY":
		r.body, r.at, r.e = exprs.Parse(r.tokens, r.at)
	default:
		r.step(r.text() == slot)
	}
}

// told tells what Parse answers, in the chapter's words, with other means than what it is held against.
func told(s string) outcome {
	l, at, e := tokens.Read(s)
	if e != api.OK {
		return outcome{at: at, e: e}
	}
	var p api.Prog
	for next := 0; next < len(l) || next == 0; {
		r := &row{tokens: l, at: next}
		kind := r.text()
		form, ok := forms[kind]
		if !ok || (next == 0) != (kind == "stations") {
			r.e = api.ErrForm
		}
		for _, slot := range strings.Fields(form) {
			if r.e == api.OK {
				r.take(slot)
			}
		}
		if r.e != api.OK {
			return outcome{at: append(slices.Clip(l), api.Token{At: len(s)})[r.at].At, e: r.e}
		}
		next = r.at
		switch kind {
		case "stations":
			p.Stations = int(r.n)
		case "in":
			p.Ins = append(p.Ins, in(r.name, r.t, int(r.n)))
		case "flow":
			p.Flows = append(p.Flows, flow(r.name, r.t, int(r.n), r.value, r.body))
		case "out":
			p.Outs = append(p.Outs, r.name)
		}
	}
	if !may(p) {
		return outcome{e: api.ErrArg}
	}
	return outcome{p: p}
}

// may tells whether a program may be, in the chapter's words.
func may(p api.Prog) bool {
	heads := slices.Clone(p.Ins)
	for _, f := range p.Flows {
		heads = append(heads, in(f.Name, f.Type, f.Station))
		if f.Default < -math.MaxInt64 || !exprs.Check(f.Body) {
			return false
		}
	}
	for _, h := range heads {
		if !isName(h.Name) || h.Type != 1 && h.Type != 2 || h.Station <= 0 || h.Station > p.Stations {
			return false
		}
	}
	for _, name := range p.Outs {
		if !isName(name) {
			return false
		}
	}
	return p.Stations > 0 && p.Stations < 9 && len(p.Ins) < 65 && len(p.Flows) < 129 && len(p.Outs) <= len(heads)
}

// asTold holds Parse against the chapter's words.
func asTold(t *testing.T, s string) {
	t.Helper()
	want := told(s)
	p, at, e := Parse(s)
	if !same(p, want.p) || at != want.at || e != want.e || e != api.OK && !isZero(p) {
		t.Errorf("Parse(%.300q) = %v, %d, %d, want %v", s, p, at, e, want)
	}
	if e == api.OK {
		again(t, p)
	}
}

// again asks that what is written is read again, and written as it was.
func again(t *testing.T, p api.Prog) {
	t.Helper()
	s, e := Text(p)
	if e == api.ErrLimit {
		return
	}
	q, at, f := Parse(s)
	if e != api.OK || f != api.OK || at != 0 || !same(p, q) || !Check(p) {
		t.Errorf("%.200q: %d, %d at %d, %v, want %v", s, e, f, at, q, p)
	}
	if again, e := Text(q); again != s || e != api.OK {
		t.Errorf("%.200q is written as %.200q", s, again)
	}
}

// grownBody tells one that may be, at most so deep.
func grownBody(next func(int) int, deep int) api.Expr {
	if deep == 1 || next(4) == 0 {
		return []api.Expr{n(0), n(1), n(math.MaxInt64), {Op: api.ExBool, N: 1}, {Op: api.ExBool}, v("a"), v("x_1"), v(longest)}[next(8)]
	}
	switch next(5) {
	case 0, 1:
		return of([]api.Op{api.ExNeg, api.ExNot, api.ExPre}[next(3)], grownBody(next, deep-1))
	case 2:
		return of(api.ExIf, grownBody(next, deep-1), grownBody(next, deep-1), grownBody(next, deep-1))
	}
	ops := []api.Op{api.ExAdd, api.ExSub, api.ExMul, api.ExDiv, api.ExMod, api.ExEq, api.ExNe, api.ExLt, api.ExLe, api.ExAnd, api.ExOr, api.ExThen}
	return of(ops[next(len(ops))], grownBody(next, deep-1), grownBody(next, deep-1))
}

// grown tells a program that may be.
func grown(next func(int) int) api.Prog {
	p := api.Prog{Stations: 1 + next(api.MaxStations)}
	names := []string{"a", "b", "x_1", "Pre", "IN", "z9_", longest}
	for range next(5) * next(5) * next(5) {
		p.Ins = append(p.Ins, in(names[next(len(names))], api.Type(1+next(2)), 1+next(p.Stations)))
	}
	for range next(6) * next(6) * next(6) {
		value := []int64{0, 1, -1, 2, -5, 7, math.MaxInt64, -math.MaxInt64}[next(8)]
		p.Flows = append(p.Flows, flow(names[next(len(names))], api.Type(1+next(2)), 1+next(p.Stations), value, grownBody(next, 1+next(5))))
	}
	for range next(len(p.Ins) + len(p.Flows) + 1) {
		p.Outs = append(p.Outs, names[next(len(names))])
	}
	return p
}

// some tells many programs that may be.
func some(seed uint64, count int) []api.Prog {
	next := chance(seed)
	var l []api.Prog
	for range count {
		l = append(l, grown(next))
	}
	return l
}

// level tells a sum of that many names, as shallow as it can be.
func level(names int) api.Expr {
	if names == 1 {
		return v("a")
	}
	return of(api.ExAdd, level(names/2), level(names-names/2))
}

// P6.1, P6.2: the chapter's examples.
func TestExamples(t *testing.T) {
	reads(t, example, exampleProg())
	writes(t, exampleProg(), "stations 2;\nin y: bool at 1;\nflow x: bool at 2 default true = not y;\nout x;\n")
	refuses(t, "", 0, api.ErrForm)
	refuses(t, "stations 2", 10, api.ErrForm)
	refuses(t, "stations 9;", 0, api.ErrArg)
	refuses(t, "stations 1; in pre: int at 1;", 15, api.ErrForm)
	refuses(t, "!", 0, api.ErrForm)
	refuses(t, "stations 1; flow x: int at 1 default -5 = 1 +;", 45, api.ErrForm)
}

// P6.1: a text without a token: what must stand there is missed at its end.
func TestParseNothing(t *testing.T) {
	for _, s := range []string{"", " ", "\n", " \t\r\n ", "-- stations 1;", "--", "  -- a\n\n-- b\n", strings.Repeat(" ", api.MaxText)} {
		refuses(t, s, len(s), api.ErrForm)
	}
	reads(t, "-- c\n stations 1; -- d", api.Prog{Stations: 1})
}

// P6.1: what tokens.Read refuses goes ahead of all else, with its place.
func TestParseUnreadable(t *testing.T) {
	for _, s := range []string{
		"@!", "@01", "stations @01;", "stations 1@.5;", "foo @!", "stations 9; @!", "stations " + tooMuch + "; @#", "stations 1; in pre: int at 1; @&", "; stations 1; flow @_a;",
		"stations 1; flow x: int at 1 default @00 = 1;", "stations 1; flow x: int at 1 default 0 = 1 @> 2;", "stations 1; @é", "@\xff", "-- a\n@\x00",
	} {
		refusesAt(t, s, api.ErrForm)
	}
	refuses(t, "!"+strings.Repeat(" ", api.MaxText), 0, api.ErrLimit)
	refuses(t, strings.Repeat("!", api.MaxText+1), 0, api.ErrLimit)
	refuses(t, strings.Repeat("!", api.MaxText), 0, api.ErrForm)
}

// P6.1: as many bytes as a text may have, and one more.
func TestParseLongest(t *testing.T) {
	room := strings.Repeat(" ", api.MaxText-len(example))
	reads(t, example+room, exampleProg())
	reads(t, room+example, exampleProg())
	reads(t, strings.Replace(example, " ", room+" ", 1), exampleProg())
	for _, s := range []string{example + room + " ", room + " " + example, example + "--" + room} {
		refuses(t, s, 0, api.ErrLimit)
	}
	refuses(t, example+room[:len(room)-1]+"x", api.MaxText-1, api.ErrForm)
	refuses(t, example[:len(example)-1]+room, api.MaxText-1, api.ErrForm)
	refuses(t, example[:len(example)-1]+room+" ", api.MaxText, api.ErrForm)
}

// lines tells some of each kind, all tokens parted by a blank.
var lines = []string{
	"stations 3 ;",
	"in a : int at 2 ;",
	"in b : bool at 1 ;",
	"flow x : int at 3 default 5 = 7 ;",
	"flow y : bool at 1 default true = a ;",
	"out x ;",
}

// around tells what may stand ahead of a line, and some of what may stand behind it.
func around(line string) (ahead []string, behind [][]string) {
	for _, s := range []string{"", "in z : int at 1 ;", "flow z : int at 1 default 0 = 1 ;", "out i ;"} {
		behind = append(behind, strings.Fields("in i : int at 1 ; "+s))
	}
	if strings.HasPrefix(line, "stations") {
		return nil, behind
	}
	return strings.Fields("stations 3 ; in i : int at 1 ;"), append(behind, nil)
}

// joined tells words with a blank between each two, the place of each, and the end's.
func joined(rows ...[]string) (s string, places []int) {
	for _, word := range slices.Concat(rows...) {
		if s != "" {
			s += " "
		}
		places = append(places, len(s))
		s += word
	}
	return s, append(places, len(s))
}

// P6.1: each token of each line left out: the one behind it is told, or the text's end.
func TestParseLeftOut(t *testing.T) {
	for _, line := range lines {
		row := strings.Fields(line)
		ahead, behinds := around(line)
		for _, behind := range behinds {
			whole, _ := joined(ahead, row, behind)
			if p, at, e := Parse(whole); p.Stations != 3 || at != 0 || e != api.OK {
				t.Fatalf("%s: %d at %d", whole, e, at)
			}
			for i := range row {
				s, places := joined(ahead, row[:i], row[i+1:], behind)
				refuses(t, s, places[len(ahead)+i], api.ErrForm)
			}
		}
	}
	for _, s := range []string{
		"stations 1 @z", "stations 1; in i: int at 1 @z", "stations 1; out i @z;",
		"stations 1; flow x: int at 1 default 0 = a @z", "stations 1; flow x: int at 1 default 0 = 1 @2;", "stations 1; flow x: int at 1 default 0 = (a @;",
		"stations 1; flow x: int at 1 default 0 = a < b @< c;", "stations 1; flow x: int at 1 default 0 = a @);",
	} {
		refusesAt(t, s, api.ErrForm)
	}
}

// mayTake tells whether a token may stand where another one of some line does.
func mayTake(old, text string) bool {
	switch old {
	case "int", "bool":
		return text == "int" || text == "bool"
	case "5", "true":
		return text == "true" || text == "false" || numberForm.MatchString(text)
	case "1", "2", "3":
		return numberForm.MatchString(text)
	}
	return old == text || isName(old) && isName(text)
}

// P6.1: another token in the place of each one of each line: that one is told.
func TestParseReplaced(t *testing.T) {
	others := append(strings.Fields(languageWords+" "+allSigns), "z", "Int", "In", "3", "1", longest, tooLong, "station", "ins", "nat")
	for _, line := range lines {
		row := strings.Fields(line)
		ahead, behinds := around(line)
		for i, old := range row {
			for _, text := range others {
				s, places := joined(ahead, row[:i], []string{text}, row[i+1:], behinds[0])
				asTold(t, s)
				switch at := len(ahead) + i; {
				case i == 0, row[i-1] == "=", i > 1 && row[i-2] == "=", mayTake(old, text):
					// a line may begin otherwise, and a body may take much: asked elsewhere
				case row[i-1] == "default" && text == "-":
					refuses(t, s, places[at+1], api.ErrForm)
				default:
					refuses(t, s, places[at], api.ErrForm)
				}
			}
		}
	}
}

// P6.1: each token where a line begins.
func TestParseFirstWords(t *testing.T) {
	for _, text := range append(strings.Fields(languageWords+" "+allSigns), "z", "In", "Flow", "OUT", "Stations", "3", "foo", longest, tooLong) {
		switch text {
		case "in", "flow", "out":
			refuses(t, "stations 1; "+text, len("stations 1; "+text), api.ErrForm)
			refusesAt(t, "stations 1; "+text+" @;", api.ErrForm)
			refusesAt(t, "@"+text, api.ErrForm)
		case "stations":
			refuses(t, text, len(text), api.ErrForm)
			refusesAt(t, "stations 1; @stations", api.ErrForm)
		default:
			refusesAt(t, "@"+text, api.ErrForm)
			refusesAt(t, "@"+text+" 1;", api.ErrForm)
			refusesAt(t, "stations 1; @"+text, api.ErrForm)
			refusesAt(t, "stations 1; @"+text+" a: int at 1;", api.ErrForm)
			refusesAt(t, "stations 1; in a: int at 1; out a; @"+text+" a;", api.ErrForm)
		}
	}
	refusesAt(t, "stations 1;@;", api.ErrForm)
	refusesAt(t, "@; stations 1;", api.ErrForm)
}

// P6.1: a text that ends behind each of its tokens, with and without what says nothing behind it.
func TestParseEnds(t *testing.T) {
	for _, s := range []string{example, "stations 1; flow x: int at 1 default -5 = if a then (b + 1) else pre -c -> not d; in a: int at 1; out a;"} {
		l, _, _ := tokens.Read(s)
		for _, token := range l {
			for _, behind := range []string{"", " ", "\n\n", " -- in a: int at 1;"} {
				start := s[:token.At+len(token.Text)] + behind
				if token.Text == ";" {
					want := told(start)
					reads(t, start, want.p)
				} else {
					refuses(t, start, len(start), api.ErrForm)
				}
			}
		}
	}
}

// P6.1: stations stands first, and once.
func TestParseStations(t *testing.T) {
	for _, s := range []string{
		"stations 1; @stations 1;", "stations 1; @stations 2;", "stations 1; in a: int at 1; @stations 1;", "stations 1; flow x: int at 1 default 0 = 1; @stations 1;", "stations 1; in a: int at 1; out a; @stations",
		"@in a: int at 1; stations 1;", "@flow x: int at 1 default 0 = 1; stations 1;", "@out a; stations 1;", "@1;", "@a;", "stations @stations 1;",
		"stations 1 @in a: int at 1;", "stations 1@, 2;", "stations 1 @2;", "stations@;", "stations @a;", "stations @-1;", "stations @true;",
	} {
		refusesAt(t, s, api.ErrForm)
	}
}

// P6.1: each kind of line ahead of and behind each other one; each list is in the order of the text.
func TestParseAnyOrder(t *testing.T) {
	parts := []string{"in a: int at 1;", "in b: bool at 2;", "flow x: int at 2 default -3 = a;", "flow y: bool at 1 default false = b;", "out x;", "out a;"}
	var grow func(s string, left []string)
	count := 0
	grow = func(s string, left []string) {
		if len(left) == 0 {
			count++
			p, at, e := Parse(s)
			if at != 0 || e != api.OK || len(p.Ins) != 2 || len(p.Flows) != 2 || len(p.Outs) != 2 || p.Stations != 2 {
				t.Fatalf("%q: %v, %d, %d", s, p, at, e)
			}
			if first := strings.Index(s, "in a") < strings.Index(s, "in b"); first != (p.Ins[0].Name == "a") || first != (p.Ins[1].Name == "b") {
				t.Errorf("%q: %v", s, p.Ins)
			}
			if first := strings.Index(s, "flow x") < strings.Index(s, "flow y"); first != (p.Flows[0].Name == "x") || first != (p.Flows[1].Name == "y") {
				t.Errorf("%q: %v", s, p.Flows)
			}
			if first := strings.Index(s, "out x") < strings.Index(s, "out a"); first != (p.Outs[0] == "x") || first != (p.Outs[1] == "a") {
				t.Errorf("%q: %v", s, p.Outs)
			}
			again(t, p)
		}
		for i, part := range left {
			grow(s+" "+part, slices.Delete(slices.Clone(left), i, i+1))
		}
	}
	grow("stations 2;", parts)
	if count != 720 {
		t.Errorf("%d orders", count)
	}
}

// P6.1: each kind of line by itself, and all that it tells.
func TestParseLines(t *testing.T) {
	for station := range api.MaxStations + 1 {
		for kind, word := range []string{"", "int", "bool"} {
			if station == 0 || kind == 0 {
				continue
			}
			s := fmt.Sprintf("stations 8; in a_1 : %s at %d;", word, station)
			reads(t, s, api.Prog{Stations: 8, Ins: []api.In{in("a_1", api.Type(kind), station)}})
			s = fmt.Sprintf("stations %d; flow Pre: %s at %d default 7=a+1;", station, word, station)
			reads(t, s, api.Prog{Stations: station, Flows: []api.Flow{flow("Pre", api.Type(kind), station, 7, of(api.ExAdd, v("a"), n(1)))}})
		}
	}
	reads(t, "stations 1;in "+longest+":int at 1;out z;", api.Prog{Stations: 1, Ins: []api.In{in(longest, api.TyInt, 1)}, Outs: []string{"z"}})
	reads(t, "stations\n1\n;\nin--x\na\t:\rint at 1--;\n;", api.Prog{Stations: 1, Ins: []api.In{in("a", api.TyInt, 1)}})
	reads(t, "stations 1; in a: int at 1; in a: bool at 1; out a; out a;", api.Prog{Stations: 1, Ins: []api.In{in("a", api.TyInt, 1), in("a", api.TyBool, 1)}, Outs: []string{"a", "a"}})
}

// P6.1: names that are none, in each place where a name stands.
func TestParseNames(t *testing.T) {
	for _, name := range append(strings.Fields(languageWords), tooLong, "1", ":", ";", "=", "-", "(", strings.Repeat("n", 1000)) {
		refusesAt(t, "stations 1; in @"+name+": int at 1;", api.ErrForm)
		refusesAt(t, "stations 1; flow @"+name+": int at 1 default 0 = 1;", api.ErrForm)
		refusesAt(t, "stations 1; in a: int at 1; out @"+name+";", api.ErrForm)
		refusesAt(t, "stations 1; in a: @"+name+"x_ at 1;", api.ErrForm)
	}
	for _, name := range []string{"a", "Z", "In", "stations_", "at1", longest, "out_"} {
		reads(t, "stations 1; in "+name+": int at 1; out "+name+";", api.Prog{Stations: 1, Ins: []api.In{in(name, api.TyInt, 1)}, Outs: []string{name}})
	}
}

// P6.1: the greatest number and one more, in each place where a number stands, and a minus ahead of it.
func TestParseNumbers(t *testing.T) {
	for _, s := range []string{
		"stations @N;", "stations @N", "stations 1; in a: int at @N;", "stations 1; flow x: int at @N default 0 = 1;",
	} {
		refusesAt(t, strings.ReplaceAll(s, "N", tooMuch), api.ErrLimit)
		refusesAt(t, strings.ReplaceAll(s, "N", strings.Repeat("9", 1000)), api.ErrLimit)
		refusesAt(t, strings.ReplaceAll(s, "N", "-1"), api.ErrForm)
		refusesAt(t, strings.ReplaceAll(s, "N", "- "+most), api.ErrForm)
		refusesAt(t, strings.ReplaceAll(s, "N", "-"+tooMuch), api.ErrForm)
		for _, number := range []string{most, "0", "9", "4294967296", "4294967297", "18446744073709551617"} {
			if whole := strings.Replace(strings.Replace(s, "@", "", 1), "N", number, 1); strings.HasSuffix(whole, ";") && len(number) < 20 {
				refuses(t, whole, 0, api.ErrArg)
			}
		}
	}
	for _, kind := range []string{"int", "bool"} {
		start := "stations 1; flow x: " + kind + " at 1 default "
		for value, want := range map[string]int64{most: math.MaxInt64, "-" + most: -math.MaxInt64, "- " + most: -math.MaxInt64, "-\n0": 0, "0": 0, "2": 2, "-1": -1, "true": 1, "false": 0} {
			p, at, e := Parse(start + value + " = 1;")
			if at != 0 || e != api.OK || p.Flows[0].Default != want {
				t.Errorf("%s%s: %v, %d, %d", start, value, p, at, e)
			}
		}
		for _, value := range []string{"@" + tooMuch, "-@" + tooMuch, "- @" + tooMuch, "-@" + strings.Repeat("9", 1000)} {
			refusesAt(t, start+value+" = 1;", api.ErrLimit)
			refusesAt(t, start+value, api.ErrLimit)
		}
		for _, value := range []string{"- @- 1", "-@true", "-@false", "-@a", "-@=", "@+1", "@a", "@not", "@(1)", "-@(1)", "1 @+ 1", "true @1", "@int", "@="} {
			refusesAt(t, start+value+" = 1;", api.ErrForm)
		}
		refuses(t, start+"--1 = 1;", len(start+"--1 = 1;"), api.ErrForm)
		p, _, e := Parse(start + "0 = " + most + " - -" + most + ";")
		if e != api.OK || !sameBody(p.Flows[0].Body, of(api.ExSub, n(math.MaxInt64), of(api.ExNeg, n(math.MaxInt64)))) {
			t.Errorf("%v, %d", p, e)
		}
		for _, body := range []string{"@" + tooMuch, "-@" + tooMuch, "1 + @" + tooMuch, "a -> (b * @" + tooMuch + ")", "if a then @" + tooMuch + " else b"} {
			refusesAt(t, start+"0 = "+body+";", api.ErrLimit)
			refusesAt(t, start+"0 = "+body+"; out", api.ErrLimit)
		}
	}
	refusesAt(t, "stations 1; in @"+tooMuch+": int at 1;", api.ErrForm)
	refusesAt(t, "stations 1; in a: @"+tooMuch+" at 1;", api.ErrForm)
	refusesAt(t, "stations 1; @"+tooMuch+";", api.ErrForm)
	refusesAt(t, "stations 1; flow x: int at 1 default 0 = 1 @"+tooMuch+";", api.ErrForm)
}

// P6.1: a body that is too deep or too great is told where it begins; another fault in it where it stands.
func TestParseBodies(t *testing.T) {
	const start = "stations 1; flow a: int at 1 default 0 = 1; flow x: int at 1 default 0 = "
	deepest := strings.Repeat("not ", api.MaxDeep-1) + "a"
	greatest, _ := exprs.Text(of(api.ExNot, level(100)))
	for _, body := range []string{deepest, greatest, "((" + deepest + "))", strings.Repeat("(", 1000) + "a" + strings.Repeat(")", 1000)} {
		if p, at, e := Parse(start + body + ";"); len(p.Flows) != 2 || at != 0 || e != api.OK {
			t.Errorf("%.60s: %d at %d", body, e, at)
		}
	}
	for _, body := range []string{"@not " + deepest, "@- " + greatest, "@(not " + deepest + ")", "@a" + strings.Repeat(" + a", 300), "@" + strings.Repeat("- ", 30000) + "1"} {
		refusesAt(t, start+body+";", api.ErrLimit)
		refusesAt(t, start+body, api.ErrLimit)
		refusesAt(t, start+body+"; in pre", api.ErrLimit)
		refusesAt(t, start+"\n -- c\n  "+body+";", api.ErrLimit)
	}
	for _, body := range []string{"@;", "1 +@;", "@then;", "a + @if a then b else c;", "if a then b@;", "(a@;", "a @b;", "a @= b;", "@in;", "not @out;", "@= 1;", "1@: 2;", "a @at 1;", "not " + deepest + " + @;", "@" + tooLong + ";", "@"} {
		refusesAt(t, start+body, api.ErrForm)
	}
}

// P6.1: the reading ends at the first token that is wrong, and a program is asked for only when all are right.
func TestParseFirstFault(t *testing.T) {
	refusesAt(t, "stations @"+tooMuch+" stations", api.ErrLimit)
	refusesAt(t, "stations 1 @1; in a: int at "+tooMuch+";", api.ErrForm)
	refusesAt(t, "stations 9; in a: int at 1; @foo", api.ErrForm)
	refusesAt(t, "stations 0; in a: int at @"+tooMuch+";", api.ErrLimit)
	refusesAt(t, "stations 1; out a; flow x: int at 5 default 0 = 1@", api.ErrForm)
	refuses(t, "stations 1; "+strings.Repeat("in a: int at 1; ", api.MaxIns+1), 0, api.ErrArg)
	refusesAt(t, "stations 1; "+strings.Repeat("in a: int at 1; ", api.MaxIns+1)+"@a", api.ErrForm)
}

// P6.1: a program that may not be, though each of its tokens may.
func TestParseMayNotBe(t *testing.T) {
	for _, s := range []string{
		"stations 0;", "stations 9;", "stations 1; in a: int at 0;", "stations 1; in a: int at 2;", "stations 8; in a: int at 9;", "stations 2; in a: int at 2; flow x: int at 3 default 0 = 1;",
		"stations 1; flow x: bool at 0 default 0 = 1;", "stations 1; out a;", "stations 1; in a: int at 1; out a; out a;", "stations 1; out a; out a; flow x: int at 1 default 0 = 1;",
	} {
		refuses(t, s, 0, api.ErrArg)
	}
	many := func(count int, line string) string { return strings.Repeat(line+"\n", count) }
	const inLine, flowLine, outLine = "in a: int at 1;", "flow x: int at 1 default 0 = 1;", "out a;"
	for _, counts := range [][3]int{{64, 0, 0}, {0, 128, 0}, {64, 128, 0}, {64, 128, 192}, {64, 0, 64}, {0, 128, 128}, {1, 1, 2}, {0, 0, 0}} {
		s := "stations 1;" + many(counts[2], outLine) + many(counts[0], inLine) + many(counts[1], flowLine)
		p, at, e := Parse(s)
		if at != 0 || e != api.OK || len(p.Ins) != counts[0] || len(p.Flows) != counts[1] || len(p.Outs) != counts[2] {
			t.Errorf("%v: %d at %d", counts, e, at)
		}
		again(t, p)
		if counts[2] == counts[0]+counts[1] {
			refuses(t, s+outLine, 0, api.ErrArg)
		}
		if counts[0] == api.MaxIns {
			refuses(t, s+inLine, 0, api.ErrArg)
		}
		if counts[1] == api.MaxFlows {
			refuses(t, s+flowLine, 0, api.ErrArg)
		}
	}
}

// P6.1, R1: all short rows of lines' words, as the chapter's words tell them.
func TestParseAllShort(t *testing.T) {
	parts := strings.Fields("stations in flow out a : ; int at 1 default = - true " + tooMuch)
	var grow func(s string, more int)
	grow = func(s string, more int) {
		asTold(t, s)
		if more == 0 {
			return
		}
		for _, part := range parts {
			grow(s+" "+part, more-1)
		}
	}
	grow("", 3)
	grow("stations 1;", 3)
	grow("stations 1; in a", 3)
	grow("stations 1; in a: int at 1; out", 3)
	grow("stations 1; flow a: int at 1 default", 3)
	grow("stations 1; flow a: int at 1 default -", 3)
	grow("stations 1; flow a: int at 1 default 1 = a", 3)
}

// P6.1, R1: texts of programs of which tokens are left out, doubled, and changed for others, as the chapter's words tell them.
func TestParseChanged(t *testing.T) {
	next := chance(61)
	others := strings.Fields(languageWords + " " + allSigns + " a x_1 0 1 2 9 " + most + " " + tooMuch + " " + tooLong + " ! 01")
	for range 20_000 {
		p := api.Prog{Stations: 1 + next(2), Ins: ins(next(2)), Flows: flows(next(3)), Outs: slices.Repeat([]string{"a"}, next(3))}
		s, e := Text(p)
		if e != api.OK {
			continue
		}
		l, _, _ := tokens.Read(s)
		var words []string
		for _, token := range l {
			words = append(words, token.Text)
		}
		for range next(3) {
			i := next(len(words))
			switch next(4) {
			case 0:
				words[i] = others[next(len(others))]
			case 1:
				words = slices.Insert(words, i, others[next(len(others))])
			case 2:
				words[i] = words[next(len(words))]
			case 3:
				if words = slices.Delete(words, i, i+1); len(words) == 0 {
					words = []string{"stations"}
				}
			}
		}
		asTold(t, strings.Join(words, []string{" ", "\n", " --x\n", "\t "}[next(4)]))
	}
}

// R1: any bytes.
func TestParseAnyBytes(t *testing.T) {
	next := chance(62)
	for range 20_000 {
		b := []byte(example)
		for range 1 + next(3) {
			b[next(len(b))] = byte(next(256))
		}
		asTold(t, string(b[next(2)*next(len(b)):]))
	}
	for c := range 256 {
		asTold(t, string([]byte{byte(c)}))
		asTold(t, example+string([]byte{byte(c)}))
	}
}

// P6.2: each kind of line, as it is written.
func TestText(t *testing.T) {
	for station := 1; station <= api.MaxStations; station++ {
		writes(t, api.Prog{Stations: station}, fmt.Sprintf("stations %d;\n", station))
	}
	writes(t, api.Prog{Stations: 8, Ins: []api.In{in("b", api.TyInt, 8), in("a", api.TyBool, 1)}, Outs: []string{"a", "z"}}, "stations 8;\nin b: int at 8;\nin a: bool at 1;\nout a;\nout z;\n")
	body := of(api.ExNeg, of(api.ExNeg, of(api.ExSub, v("a"), of(api.ExNeg, n(1)))))
	p := api.Prog{Stations: 2, Flows: []api.Flow{flow("x", api.TyInt, 1, -7, body), flow("w", api.TyBool, 2, 0, of(api.ExIf, v("w"), v(longest), of(api.ExThen, n(0), of(api.ExPre, v("w")))))}, Outs: []string{longest, "x"}}
	writes(t, p, "stations 2;\nflow x: int at 1 default -7 = - -(a - -1);\nflow w: bool at 2 default false = if w then "+longest+" else 0 -> pre w;\nout "+longest+";\nout x;\n")
}

// P6.2, P6.3: a Default of each type.
func TestDefaults(t *testing.T) {
	for value, text := range map[int64]string{0: "0", 1: "1", 2: "2", -1: "-1", -5: "-5", 10: "10", math.MaxInt64: most, math.MinInt64 + 1: "-" + most} {
		writes(t, api.Prog{Stations: 1, Flows: []api.Flow{flow("x", api.TyInt, 1, value, n(1))}}, "stations 1;\nflow x: int at 1 default "+text+" = 1;\n")
		switch value {
		case 0:
			text = "false"
		case 1:
			text = "true"
		}
		writes(t, api.Prog{Stations: 1, Flows: []api.Flow{flow("x", api.TyBool, 1, value, n(1))}}, "stations 1;\nflow x: bool at 1 default "+text+" = 1;\n")
	}
	for _, kind := range []api.Type{api.TyInt, api.TyBool} {
		answers(t, api.Prog{Stations: 1, Flows: []api.Flow{flow("x", kind, 1, math.MinInt64, n(1))}}, false)
	}
}

// P6.3, P6.2: how many stations there may be, and at which one a flow.
func TestStations(t *testing.T) {
	for _, stations := range []int{math.MinInt, -1, 0, 1, 2, 7, 8, 9, 255, 257, math.MaxInt} {
		right := stations >= 1 && stations <= 8
		answers(t, api.Prog{Stations: stations}, right)
		for _, station := range []int{math.MinInt, -1, 0, 1, stations - 1, stations, stations + 1, 9, math.MaxInt} {
			at := right && station >= 1 && station <= stations
			answers(t, api.Prog{Stations: stations, Ins: []api.In{in("a", api.TyInt, station)}}, at)
			answers(t, api.Prog{Stations: stations, Flows: []api.Flow{flow("a", api.TyInt, station, 0, n(1))}}, at)
			answers(t, api.Prog{Stations: stations, Ins: append(ins(3), in("a", api.TyInt, station)), Flows: flows(2)}, at)
			answers(t, api.Prog{Stations: stations, Flows: append(flows(3), flow("a", api.TyInt, station, 0, n(1)))}, at)
		}
	}
}

// P6.3, P6.2: as many Ins, Flows and Outs as there may be, and one more of each.
func TestCounts(t *testing.T) {
	for _, inCount := range []int{0, 1, 63, 64, 65, 128, 1000} {
		for _, flowCount := range []int{0, 1, 64, 127, 128, 129, 1000} {
			for _, outCount := range []int{0, 1, inCount, flowCount, inCount + flowCount - 1, inCount + flowCount, inCount + flowCount + 1, 192, 193} {
				right := inCount <= 64 && flowCount <= 128 && outCount <= inCount+flowCount
				answers(t, api.Prog{Stations: 1, Ins: ins(inCount), Flows: flows(flowCount), Outs: slices.Repeat([]string{"a"}, max(outCount, 0))}, right)
			}
		}
	}
}

// P6.3, P6.2: names that are none, in each place, be it the first or the last of many.
func TestNames(t *testing.T) {
	for _, name := range append([]string{"a", "Z", "In", longest, "a_1"}, noNames...) {
		right := isName(name)
		for _, count := range []int{0, 5} {
			whole := api.Prog{Stations: 1, Ins: ins(count), Flows: flows(count)}
			p := whole
			p.Ins = append(ins(count), in(name, api.TyInt, 1))
			answers(t, p, right)
			p.Ins = append([]api.In{in(name, api.TyBool, 1)}, ins(count)...)
			answers(t, p, right)
			p = whole
			p.Flows = append(flows(count), flow(name, api.TyInt, 1, 0, n(1)))
			answers(t, p, right)
			p.Flows = append([]api.Flow{flow(name, api.TyInt, 1, 0, n(1))}, flows(count)...)
			answers(t, p, right)
			p = whole
			p.Ins = append(ins(count), in("a", api.TyInt, 1))
			p.Outs = append(slices.Repeat([]string{"a"}, count), name)
			answers(t, p, right)
			p.Outs = append([]string{name}, slices.Repeat([]string{"a"}, count)...)
			answers(t, p, right)
			p = whole
			p.Flows = append(flows(count), flow("x", api.TyInt, 1, 0, v(name)))
			answers(t, p, right)
		}
	}
}

// P6.3, P6.2: each type.
func TestTypes(t *testing.T) {
	for kind := range 256 {
		right := kind == 1 || kind == 2
		answers(t, api.Prog{Stations: 1, Ins: []api.In{in("a", api.Type(kind), 1)}}, right)
		answers(t, api.Prog{Stations: 1, Flows: []api.Flow{flow("a", api.Type(kind), 1, 1, n(1))}}, right)
		answers(t, api.Prog{Stations: 1, Ins: append(ins(2), in("a", api.Type(kind), 1)), Flows: append(flows(2), flow("a", api.TyBool, 1, 1, n(1)))}, right)
	}
}

// P6.3, P6.2, R1: a Body that may not be, and one that holds itself.
func TestBodies(t *testing.T) {
	ring := make([]api.Expr, 2)
	for i := range ring {
		ring[i] = api.Expr{Op: api.ExAdd, Args: ring}
	}
	deepest := n(1)
	for range api.MaxDeep - 1 {
		deepest = of(api.ExNeg, deepest)
	}
	for _, x := range []api.Expr{{}, n(-1), v("pre"), {Op: api.ExBool, N: 2}, of(api.ExAdd, n(1)), {Op: 99}, of(api.ExNeg, deepest), of(api.ExPre, of(api.ExPre, level(100))), {Op: api.ExInt, Name: "a"}, ring[0]} {
		answers(t, api.Prog{Stations: 1, Flows: []api.Flow{flow("x", api.TyInt, 1, 0, x)}}, false)
		answers(t, api.Prog{Stations: 1, Flows: append(flows(9), flow("x", api.TyInt, 1, 0, x))}, false)
		answers(t, api.Prog{Stations: 1, Flows: append([]api.Flow{flow("x", api.TyInt, 1, 0, x)}, flows(9)...)}, false)
	}
	for _, x := range []api.Expr{n(0), deepest, of(api.ExPre, level(100)), v("x"), of(api.ExAnd, v("nobody"), n(1))} {
		answers(t, api.Prog{Stations: 1, Flows: []api.Flow{flow("x", api.TyInt, 1, 0, x)}}, true)
	}
}

// P6.3: programs of which some fields are changed, as the chapter's words tell them.
func TestCheckChanged(t *testing.T) {
	next := chance(63)
	for range 20_000 {
		p := api.Prog{Stations: 1 + next(8), Ins: ins(next(4)), Flows: flows(next(4))}
		p.Outs = slices.Repeat([]string{"a"}, next(len(p.Ins)+len(p.Flows)+1))
		number := []int{-1, 0, 1, 2, 7, 8, 9, math.MaxInt}[next(8)]
		name := []string{"a", "pre", "", "_", tooLong, longest}[next(6)]
		switch next(8) {
		case 0:
			p.Stations = number
		case 1:
			p.Ins = append(p.Ins, in(name, 1, 1))
		case 2:
			p.Ins = append(p.Ins, in("a", api.Type(number), 1))
		case 3:
			p.Ins = append(p.Ins, in("a", 2, number))
		case 4:
			p.Flows = append(p.Flows, flow(name, api.Type(next(4)), number, 0, n(1)))
		case 5:
			p.Flows = append(p.Flows, flow("a", 1, 1, []int64{0, math.MinInt64, math.MinInt64 + 1, math.MaxInt64}[next(4)], n(int64(next(3)-1))))
		case 6:
			p.Outs = append(p.Outs, name)
		}
		answers(t, p, may(p))
		if may(p) {
			again(t, p)
		}
	}
}

// ofLength tells a program whose text has that many bytes.
func ofLength(t *testing.T, length int) api.Prog {
	t.Helper()
	p := api.Prog{Stations: 1}
	for i := range 20 {
		p.Flows = append(p.Flows, flow(fmt.Sprint("f", i), api.TyInt, 1, 0, level(100)))
	}
	left := length - len(written(p))
	var stretch func(x *api.Expr)
	stretch = func(x *api.Expr) {
		if x.Op == api.ExName {
			more := min(left, api.MaxName-1)
			x.Name += strings.Repeat("a", more)
			left -= more
		}
		for i := range x.Args {
			stretch(&x.Args[i])
		}
	}
	for i := range p.Flows {
		stretch(&p.Flows[i].Body)
	}
	if left != 0 || len(written(p)) != length {
		t.Fatalf("a text of %d bytes: %d are left", length, left)
	}
	return p
}

// P6.2: a text of as many bytes as it may have, and of one more.
func TestTextLongest(t *testing.T) {
	for _, length := range []int{api.MaxText - 1, api.MaxText} {
		p := ofLength(t, length)
		if s, e := Text(p); len(s) != length || e != api.OK || !Check(p) {
			t.Errorf("%d: %d bytes, %d", length, len(s), e)
		}
		again(t, p)
	}
	for _, length := range []int{api.MaxText + 1, api.MaxText + 1000} {
		p := ofLength(t, length)
		if s, e := Text(p); s != "" || e != api.ErrLimit || !Check(p) {
			t.Errorf("%d: %d bytes, %d", length, len(s), e)
		}
		p.Outs = []string{"pre"}
		answers(t, p, false)
	}
	p := api.Prog{Stations: 1, Ins: ins(api.MaxIns)}
	for range api.MaxFlows {
		p.Flows = append(p.Flows, ofLength(t, api.MaxText).Flows[0])
	}
	if s, e := Text(p); s != "" || e != api.ErrLimit || !Check(p) {
		t.Errorf("%d bytes, %d", len(s), e)
	}
}

// P6.4: what is written is read again; so is what was read and is written.
func TestAgain(t *testing.T) {
	read := 0
	for _, p := range some(64, 1000) {
		if _, e := Text(p); e == api.OK {
			read++
		}
		again(t, p)
	}
	if read < 500 {
		t.Errorf("only %d are read again", read)
	}
	for _, s := range []string{example, "stations 1;", "stations 8;in a:int at 8;flow b:bool at 1 default - 0=(((a)))<(1);out c;", "stations 1; -- none\n"} {
		p, _, e := Parse(s)
		if e != api.OK {
			t.Errorf("%s: %d", s, e)
		}
		again(t, p)
	}
}

// P6.2: a text's tokens are those of the forms, and what stands between them is as told.
func TestTextForm(t *testing.T) {
	line := regexp.MustCompile(`^(stations [1-8]|(in|flow) [A-Za-z]\w*: (int|bool) at [1-8]( default (-?\d+|true|false) = \S(.*\S)?)?|out [A-Za-z]\w*);$`)
	for _, p := range some(65, 300) {
		s, e := Text(p)
		if e != api.OK {
			continue
		}
		rows := strings.Split(strings.TrimSuffix(s, "\n"), "\n")
		if !strings.HasSuffix(s, ";\n") || len(rows) != 1+len(p.Ins)+len(p.Flows)+len(p.Outs) {
			t.Errorf("%q", s)
		}
		for _, row := range rows {
			if !line.MatchString(row) || strings.HasPrefix(row, "in") == strings.Contains(row, "default") && !strings.HasPrefix(row, "stations") && !strings.HasPrefix(row, "out") {
				t.Errorf("%q", row)
			}
		}
		for i, f := range p.Flows {
			body, _ := exprs.Text(f.Body)
			if row := rows[1+len(p.Ins)+i]; !strings.HasPrefix(row, "flow "+f.Name+": ") || !strings.HasSuffix(row, " = "+body+";") {
				t.Errorf("%q", row)
			}
		}
	}
}

// R4: empty and nil mean the same.
func TestEmptyLists(t *testing.T) {
	for _, p := range []api.Prog{{Stations: 1}, {Stations: 1, Ins: []api.In{}, Flows: []api.Flow{}, Outs: []string{}}, {Stations: 1, Ins: make([]api.In, 0, 3), Flows: make([]api.Flow, 0, 3), Outs: make([]string, 0, 3)}} {
		writes(t, p, "stations 1;\n")
	}
	p := api.Prog{Stations: 1, Flows: []api.Flow{flow("x", api.TyInt, 1, 0, api.Expr{Op: api.ExInt, Args: make([]api.Expr, 0, 2)})}}
	writes(t, p, "stations 1;\nflow x: int at 1 default 0 = 0;\n")
}

// spoilBody and spoil change all of an answer, and its spare room.
func spoilBody(x *api.Expr) {
	for i := range x.Args {
		spoilBody(&x.Args[i])
	}
	for i := range x.Args[:cap(x.Args)] {
		x.Args[:cap(x.Args)][i] = api.Expr{Op: 99, N: -9, Name: "spoiled"}
	}
	*x = api.Expr{}
}

func spoil(p *api.Prog) {
	for i := range p.Flows {
		spoilBody(&p.Flows[i].Body)
	}
	p.Ins, p.Flows, p.Outs = p.Ins[:cap(p.Ins)], p.Flows[:cap(p.Flows)], p.Outs[:cap(p.Outs)]
	for i := range p.Ins {
		p.Ins[i] = in("spoiled", 99, -9)
	}
	for i := range p.Flows {
		p.Flows[i] = flow("spoiled", 99, -9, -9, api.Expr{})
	}
	for i := range p.Outs {
		p.Outs[i] = "spoiled"
	}
	*p = api.Prog{}
}

// R4: an answer is new memory: what its caller does to it nobody else sees, nor does one list of it see what is done to another.
func TestAnswersAreNew(t *testing.T) {
	for _, p := range some(66, 200) {
		s, e := Text(p)
		if e != api.OK {
			continue
		}
		first, _, _ := Parse(s)
		second, _, _ := Parse(s)
		if len(first.Flows) > 1 {
			spoilBody(&first.Flows[0].Body)
			rest := api.Prog{Ins: first.Ins, Flows: first.Flows[1:], Outs: first.Outs}
			if !same(rest, api.Prog{Ins: p.Ins, Flows: p.Flows[1:], Outs: p.Outs}) {
				t.Errorf("%.200q: bodies share memory", s)
			}
		}
		spoil(&first)
		if !same(second, p) {
			t.Errorf("%.200q: two answers share memory", s)
		}
		if third, _, e := Parse(s); !same(third, p) || e != api.OK {
			t.Errorf("%.200q: a later answer is spoiled", s)
		}
	}
}

// withRoom tells the same in lists with spare room that is filled.
func withRoom(p api.Prog) (api.Prog, func() bool) {
	allIns := append(slices.Clone(p.Ins), in("spare", 1, 1), in("spare", 2, 1))
	allFlows := append(slices.Clone(p.Flows), flow("spare", 1, 1, 1, n(1)), flow("spare", 1, 1, 1, n(1)))
	for i, f := range allFlows {
		allFlows[i].Body.Args = append(slices.Clone(f.Body.Args), v("spare"))[:len(f.Body.Args)]
	}
	allOuts := append(slices.Clone(p.Outs), "spare", "spare")
	mine := api.Prog{Stations: p.Stations, Ins: allIns[:len(p.Ins)], Flows: allFlows[:len(p.Flows)], Outs: allOuts[:len(p.Outs)]}
	return mine, func() bool {
		for _, f := range allFlows {
			if args := f.Body.Args; !sameBody(args[:len(args)+1][len(args)], v("spare")) {
				return false
			}
		}
		return same(mine, p) && allIns[len(p.Ins)].Name == "spare" && allIns[len(p.Ins)+1].Type == 2 &&
			allFlows[len(p.Flows)].Name == "spare" && allFlows[len(p.Flows)+1].Name == "spare" &&
			allOuts[len(p.Outs)] == "spare" && allOuts[len(p.Outs)+1] == "spare"
	}
}

// R4: what is handed in stays as it was, its spare room too.
func TestArgumentsStay(t *testing.T) {
	wrong := api.Prog{Stations: 1, Ins: ins(2), Flows: append(flows(3), flow("x", 1, 1, math.MinInt64, of(api.ExAdd, n(1)))), Outs: []string{"a", "pre"}}
	for _, p := range append(some(67, 200), wrong, ofLength(t, api.MaxText+1)) {
		mine, stays := withRoom(p)
		first, e := Text(mine)
		second, f := Text(p)
		if first != second || e != f || Check(mine) != Check(p) || !stays() {
			t.Errorf("%.200s is changed", fmt.Sprint(p))
		}
	}
}

// R4: what is handed in is not kept: when it changes, an answer does not.
func TestNothingKept(t *testing.T) {
	b := []byte(example)
	p, _, e := Parse(unsafe.String(&b[0], len(b)))
	clear(b)
	if e != api.OK || !same(p, exampleProg()) {
		t.Errorf("%v, %d", p, e)
	}
	name := []byte("abc")
	shared := unsafe.String(&name[0], len(name))
	q := api.Prog{Stations: 1, Ins: []api.In{in(shared, 1, 1)}, Flows: []api.Flow{flow(shared, 1, 1, 0, v(shared))}, Outs: []string{shared}}
	s, _ := Text(q)
	copy(name, "xyz")
	if s != "stations 1;\nin abc: int at 1;\nflow abc: int at 1 default 0 = abc;\nout abc;\n" {
		t.Errorf("%q", s)
	}
}

// R5: what is answered hangs on nothing but what is handed in, however many ask at once.
func TestAtOnce(t *testing.T) {
	all := some(68, 100)
	var group sync.WaitGroup
	for range 8 {
		group.Go(func() {
			for _, p := range all {
				again(t, p)
				refuses(t, "stations 1; foo", 12, api.ErrForm)
				reads(t, example, exampleProg())
			}
		})
	}
	group.Wait()
}
