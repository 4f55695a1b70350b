package values

import "belfry/api"

// alike stands for a type that may be either, but is the same wherever an operator asks for it.
const alike = api.TyNone

// asked tells the types of the values that an operator is of, and none of what is no operator here.
func asked(o api.Op) []api.Type {
	switch o {
	case api.ExNeg:
		return []api.Type{api.TyInt}
	case api.ExAdd, api.ExSub, api.ExMul, api.ExDiv, api.ExMod, api.ExLt, api.ExLe:
		return []api.Type{api.TyInt, api.TyInt}
	case api.ExEq, api.ExNe:
		return []api.Type{alike, alike}
	case api.ExNot:
		return []api.Type{api.TyBool}
	case api.ExAnd, api.ExOr:
		return []api.Type{api.TyBool, api.TyBool}
	case api.ExIf:
		return []api.Type{api.TyBool, alike, alike}
	}
	return nil
}

// fits holds those that are asked to be alike against the last value, since each operator that asks so asks it of its last one.
func fits(l []api.Value, asks []api.Type) bool {
	last := l[len(l)-1].Type
	for i, v := range l {
		if v.Type != asks[i] && (asks[i] != alike || v.Type != last) {
			return false
		}
	}
	return true
}
