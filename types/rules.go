package types

import "belfry/api"

// rule tells the type of an operator by the types of its parts; TyNone, if it may not be of those.
type rule func(parts []api.Type) api.Type

// rules tells what each operator asks for.
func rules() map[api.Op]rule {
	arithmetic := allOf(api.TyInt, api.TyInt)
	logic := allOf(api.TyBool, api.TyBool)
	less := allOf(api.TyInt, api.TyBool)
	equal := func(parts []api.Type) api.Type {
		if common(parts) == api.TyNone {
			return api.TyNone
		}
		return api.TyBool
	}
	choice := func(parts []api.Type) api.Type {
		if parts[0] != api.TyBool {
			return api.TyNone
		}
		return common(parts[1:])
	}
	return map[api.Op]rule{
		api.ExNeg: arithmetic, api.ExAdd: arithmetic, api.ExSub: arithmetic, api.ExMul: arithmetic, api.ExDiv: arithmetic, api.ExMod: arithmetic,
		api.ExNot: logic, api.ExAnd: logic, api.ExOr: logic,
		api.ExLt: less, api.ExLe: less,
		api.ExEq: equal, api.ExNe: equal,
		api.ExIf:   choice,
		api.ExThen: common, api.ExPre: common,
	}
}

// allOf makes the rule of operators whose parts are all of one type, and who have a type of their own.
func allOf(part, own api.Type) rule {
	return func(parts []api.Type) api.Type {
		if common(parts) != part {
			return api.TyNone
		}
		return own
	}
}

// common tells the type that all have; TyNone, if they have not one.
func common(parts []api.Type) api.Type {
	for _, t := range parts {
		if t != parts[0] {
			return api.TyNone
		}
	}
	return parts[0]
}
