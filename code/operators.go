package code

import "belfry/api"

// operator is what an instruction asks for that takes values.
type operator struct {
	takes  int                             // how many
	ago    int                             // the greatest Ago that it may have
	leaves func(taken []api.Type) api.Type // TyNone, if it may not take those
}

func operators() map[api.Op]operator {
	negative := operator{takes: 1, leaves: from(api.TyInt, api.TyInt)}
	opposite := operator{takes: 1, leaves: from(api.TyBool, api.TyBool)}
	sum := operator{takes: 2, leaves: from(api.TyInt, api.TyInt)}
	logic := operator{takes: 2, leaves: from(api.TyBool, api.TyBool)}
	less := operator{takes: 2, leaves: from(api.TyInt, api.TyBool)}
	equal := operator{takes: 2, leaves: func(taken []api.Type) api.Type { return from(taken[0], api.TyBool)(taken) }}
	choice := operator{takes: 3, leaves: func(taken []api.Type) api.Type {
		if taken[0] != api.TyBool {
			return api.TyNone
		}
		return either(taken[1:])
	}}
	return map[api.Op]operator{
		api.ExNeg: negative, api.ExNot: opposite,
		api.ExAdd: sum, api.ExSub: sum, api.ExMul: sum, api.ExDiv: sum, api.ExMod: sum,
		api.ExAnd: logic, api.ExOr: logic,
		api.ExLt: less, api.ExLe: less,
		api.ExEq: equal, api.ExNe: equal,
		api.ExIf:   choice,
		api.ExThen: {takes: 2, ago: api.MaxDeep, leaves: either},
	}
}

// from makes the rule of what takes values of one type only.
func from(one, left api.Type) func(taken []api.Type) api.Type {
	return func(taken []api.Type) api.Type {
		for _, t := range taken {
			if t != one {
				return api.TyNone
			}
		}
		return left
	}
}

// either is the rule of what leaves one of the values that it takes.
func either(taken []api.Type) api.Type { return from(taken[0], taken[0])(taken) }
