package exprs

import "belfry/api"

// Kinds of tokens.
const (
	word uint8 = iota + 1
	number
	signs
)

// Ranks that parts have and places ask for, where they are not told by joins.
const (
	rankAny  = 0 // asked for where any part may stand
	rankIf   = 0
	rankOne  = 6
	rankAtom = 7
)

// mark: what a token counts by.
type mark struct {
	kind uint8
	text string
}

// join: an operator of two, with its rank, and those that its places ask for.
type join struct {
	op            api.Op
	mark          mark
	rank          int
	first, second int
}

var joins = [...]join{
	{api.ExThen, mark{signs, "->"}, 0, 1, 0},
	{api.ExOr, mark{word, "or"}, 1, 1, 2},
	{api.ExAnd, mark{word, "and"}, 2, 2, 3},
	{api.ExEq, mark{signs, "=="}, 3, 4, 4},
	{api.ExNe, mark{signs, "!="}, 3, 4, 4},
	{api.ExLt, mark{signs, "<"}, 3, 4, 4},
	{api.ExLe, mark{signs, "<="}, 3, 4, 4},
	{api.ExAdd, mark{signs, "+"}, 4, 4, 5},
	{api.ExSub, mark{signs, "-"}, 4, 4, 5},
	{api.ExMul, mark{signs, "*"}, 5, 5, 6},
	{api.ExDiv, mark{signs, "/"}, 5, 5, 6},
	{api.ExMod, mark{signs, "%"}, 5, 5, 6},
}

func joinOf(op api.Op) (join, bool) {
	for _, j := range joins {
		if j.op == op {
			return j, true
		}
	}
	return join{}, false
}

func joinAt(m mark) (join, bool) {
	for _, j := range joins {
		if j.mark == m {
			return j, true
		}
	}
	return join{}, false
}

// rankOf: the rank of an Op that may be.
func rankOf(op api.Op) int {
	if j, ok := joinOf(op); ok {
		return j.rank
	}
	switch op {
	case api.ExIf:
		return rankIf
	case api.ExNeg, api.ExNot, api.ExPre:
		return rankOne
	}
	return rankAtom
}
