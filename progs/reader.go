package progs

import (
	"belfry/api"
	"belfry/exprs"
	"belfry/tokens"
)

// reader goes through tokens. Where one may not stand, it panics with the error, its next one being that token.
type reader struct {
	list []api.Token // the last one is the text's end
	next int
	prog api.Prog
}

// endOf: a token of no kind behind all others, so that there always is a next one, and it has a place.
func endOf(s string) api.Token { return api.Token{At: len(s)} }

// whole: a program, from the first token to the end.
func (r *reader) whole() (e api.Errno) {
	defer func() {
		if fault, ok := recover().(api.Errno); ok {
			e = fault
		}
	}()
	r.line(map[string]func(){"stations": r.stations})
	others := map[string]func(){"in": r.in, "flow": r.flow, "out": r.out}
	for r.next < len(r.list)-1 {
		r.line(others)
	}
	return api.OK
}

// line: one that begins with one of some words, and is read as that word tells.
func (r *reader) line(readers map[string]func()) {
	read, ok := readers[r.peek().Text]
	if !ok {
		panic(api.ErrForm)
	}
	r.next++
	read()
	r.pass(";")
}

func (r *reader) stations() { r.prog.Stations = r.station() }

func (r *reader) in() { r.prog.Ins = append(r.prog.Ins, r.head()) }

func (r *reader) flow() {
	head := r.head()
	r.pass("default")
	value := r.value()
	r.pass("=")
	r.prog.Flows = append(r.prog.Flows, api.Flow{
		Name:    head.Name,
		Type:    head.Type,
		Station: head.Station,
		Default: value,
		Body:    r.body(),
	})
}

func (r *reader) out() { r.prog.Outs = append(r.prog.Outs, r.name()) }

// head: what an In and a Flow have in common.
func (r *reader) head() api.In {
	var head api.In
	head.Name = r.name()
	r.pass(":")
	head.Type = r.typeName()
	r.pass("at")
	head.Station = r.station()
	return head
}

// peek: the next token. Its Text alone tells what it is, since no two kinds have one in common.
func (r *reader) peek() api.Token { return r.list[r.next] }

// pass goes past a token that must stand there.
func (r *reader) pass(text string) {
	if r.peek().Text != text {
		panic(api.ErrForm)
	}
	r.next++
}

func (r *reader) name() string {
	text := r.peek().Text
	if !tokens.Name(text) {
		panic(api.ErrForm)
	}
	r.next++
	return text
}

func (r *reader) typeName() api.Type {
	for _, t := range []api.Type{api.TyInt, api.TyBool} {
		if r.peek().Text == typeText(t) {
			r.next++
			return t
		}
	}
	panic(api.ErrForm)
}

func (r *reader) number() int64 {
	n, e := tokens.Number(r.peek().Text)
	if e != api.OK {
		panic(e)
	}
	r.next++
	return n
}

// station: a number that an int may be too small for; all that no program may have are as one.
func (r *reader) station() int { return int(min(r.number(), api.MaxStations+1)) }

func (r *reader) value() int64 {
	switch r.peek().Text {
	case "true":
		r.next++
		return 1
	case "false":
		r.next++
		return 0
	case "-":
		r.next++
		return -r.number()
	}
	return r.number()
}

// body: where exprs refuses it, the token that it tells of is the next one.
func (r *reader) body() api.Expr {
	x, next, e := exprs.Parse(r.list, r.next)
	r.next = next
	if e != api.OK {
		panic(e)
	}
	return x
}
