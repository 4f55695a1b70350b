package values

import "belfry/api"

// deed is what an operator makes of values that it may be of.
type deed func(l []api.Value) api.Value

// worked looks only into the map that has the operator, since maps are made anew at each call, and there are many calls.
func worked(o api.Op, l []api.Value) api.Value {
	switch o {
	case api.ExIf:
		return chosen(l[0], l[1], l[2])
	case api.ExNeg, api.ExAdd, api.ExSub, api.ExMul, api.ExDiv, api.ExMod:
		return sums()[o](l)
	}
	return questions()[o](l)
}

// sums tells what the operators do that answer a number.
func sums() map[api.Op]deed {
	return map[api.Op]deed{
		api.ExNeg: ofOne(number, func(a int64) int64 { return -a }),
		api.ExAdd: ofTwo(number, func(a, b int64) int64 { return a + b }),
		api.ExSub: ofTwo(number, func(a, b int64) int64 { return a - b }),
		api.ExMul: ofTwo(number, func(a, b int64) int64 { return a * b }),
		api.ExDiv: ofTwo(number, howOften),
		api.ExMod: ofTwo(number, whatIsLeft),
	}
}

// questions tells what the operators do that answer yes or no.
func questions() map[api.Op]deed {
	return map[api.Op]deed{
		api.ExLt:  ofTwo(truth, func(a, b int64) bool { return a < b }),
		api.ExLe:  ofTwo(truth, func(a, b int64) bool { return a <= b }),
		api.ExEq:  ofTwo(truth, func(a, b int64) bool { return a == b }),
		api.ExNe:  ofTwo(truth, func(a, b int64) bool { return a != b }),
		api.ExNot: ofOne(truth, func(a int64) bool { return a == 0 }),
		api.ExAnd: ofTwo(truth, func(a, b int64) bool { return a == 1 && b == 1 }),
		api.ExOr:  ofTwo(truth, func(a, b int64) bool { return a == 1 || b == 1 }),
	}
}

// ofOne makes a deed of what is done with one number, and of how its answer is told.
func ofOne[T int64 | bool](tell func(T) api.Value, do func(a int64) T) deed {
	return func(l []api.Value) api.Value { return tell(do(l[0].N)) }
}

// ofTwo makes a deed of what is done with two numbers, and of how its answer is told.
func ofTwo[T int64 | bool](tell func(T) api.Value, do func(a, b int64) T) deed {
	return func(l []api.Value) api.Value { return tell(do(l[0].N, l[1].N)) }
}

func number(n int64) api.Value { return api.Value{Type: api.TyInt, N: n} }

func truth(yes bool) api.Value {
	if yes {
		return api.Value{Type: api.TyBool, N: 1}
	}
	return api.Value{Type: api.TyBool}
}

// howOften and whatIsLeft answer 0 of a second number 0, which the language's own division panics at; the least number by -1 goes round there by itself.
func howOften(a, b int64) int64 {
	if b == 0 {
		return 0
	}
	return a / b
}

func whatIsLeft(a, b int64) int64 {
	if b == 0 {
		return 0
	}
	return a % b
}

func chosen(which, first, second api.Value) api.Value {
	if which.N == 1 {
		return first
	}
	return second
}
