package exprs

import (
	"strings"

	"belfry/api"
	"belfry/tokens"
)

// anyText stands for all texts of a kind that are no atom by themselves.
const anyText = ""

// reader goes through tokens. Where one may not stand, it panics with the error, its next one being that token.
type reader struct {
	list  []api.Token
	next  int
	atoms map[mark]func(*reader) api.Expr
}

// atoms: how to read what may stand in any place, by the token that it begins with.
func atoms() map[mark]func(*reader) api.Expr {
	return map[mark]func(*reader) api.Expr{
		{word, anyText}:   (*reader).name,
		{word, "true"}:    (*reader).yes,
		{word, "false"}:   (*reader).no,
		{number, anyText}: (*reader).number,
		{signs, "("}:      (*reader).brackets,
		{signs, "-"}:      func(r *reader) api.Expr { return r.one(api.ExNeg) },
		{word, "not"}:     func(r *reader) api.Expr { return r.one(api.ExNot) },
		{word, "pre"}:     func(r *reader) api.Expr { return r.one(api.ExPre) },
	}
}

// whole: what is worked out, from the next token on.
func (r *reader) whole() (x api.Expr, e api.Errno) {
	defer func() {
		if fault, ok := recover().(api.Errno); ok {
			e = fault
		}
	}()
	return r.part(rankAny), api.OK
}

// part: what stands in a place that asks for a rank.
func (r *reader) part(asked int) api.Expr {
	if asked == rankIf && r.peek() == (mark{word, "if"}) {
		return r.choice() // its own last place takes all that could go on
	}
	x, rank := r.atom(), rankAtom
goOn:
	j, ok := joinAt(r.peek())
	if !ok || j.rank < asked || rank < j.first {
		return x
	}
	r.next++
	x, rank = api.Expr{Op: j.op, Args: []api.Expr{x, r.part(j.second)}}, j.rank
	goto goOn
}

func (r *reader) atom() api.Expr {
	m := r.peek()
	read, ok := r.atoms[m]
	if !ok {
		read, ok = r.atoms[mark{m.kind, anyText}]
	}
	if !ok {
		panic(api.ErrForm)
	}
	return read(r)
}

// peek: the mark of the next token; behind the last one there is one of no kind.
func (r *reader) peek() mark {
	if r.next == len(r.list) {
		return mark{}
	}
	t := r.list[r.next]
	return mark{t.Kind, t.Text}
}

// pass goes past a token that must stand there.
func (r *reader) pass(kind uint8, text string) {
	if (r.peek() != mark{kind, text}) {
		panic(api.ErrForm)
	}
	r.next++
}

func (r *reader) name() api.Expr {
	text := r.peek().text
	if !tokens.Name(text) {
		panic(api.ErrForm)
	}
	r.next++
	return api.Expr{Op: api.ExName, Name: strings.Clone(text)}
}

func (r *reader) yes() api.Expr {
	r.next++
	return api.Expr{Op: api.ExBool, N: 1}
}

func (r *reader) no() api.Expr {
	r.next++
	return api.Expr{Op: api.ExBool}
}

func (r *reader) number() api.Expr {
	n, e := tokens.Number(r.peek().text)
	if e != api.OK {
		panic(e)
	}
	r.next++
	return api.Expr{Op: api.ExInt, N: n}
}

func (r *reader) brackets() api.Expr {
	r.next++
	x := r.part(rankAny)
	r.pass(signs, ")")
	return x
}

func (r *reader) one(op api.Op) api.Expr {
	r.next++
	return api.Expr{Op: op, Args: []api.Expr{r.part(rankOne)}}
}

func (r *reader) choice() api.Expr {
	r.next++
	which := r.part(rankAny)
	r.pass(word, "then")
	yes := r.part(rankAny)
	r.pass(word, "else")
	no := r.part(rankAny)
	return api.Expr{Op: api.ExIf, Args: []api.Expr{which, yes, no}}
}
