package starts

import "belfry/api"

// rule tells from which instant on an operator has a value by the instants of its parts.
type rule func(parts ...int) int

// rules tells when each operator begins.
func rules() map[api.Op]rule {
	return map[api.Op]rule{
		api.ExNeg: latest, api.ExNot: latest,
		api.ExAdd: latest, api.ExSub: latest, api.ExMul: latest, api.ExDiv: latest, api.ExMod: latest,
		api.ExEq: latest, api.ExNe: latest, api.ExLt: latest, api.ExLe: latest,
		api.ExAnd: latest, api.ExOr: latest,
		api.ExIf:   latest,
		api.ExThen: begun,
		api.ExPre:  later,
	}
}

func latest(parts ...int) int {
	most := 0
	for _, instant := range parts {
		most = max(most, instant)
	}
	return most
}

func later(parts ...int) int { return latest(parts...) + 1 }

// begun asks its first part for the instant 0 alone, and its second part only behind that, so that either may miss what the other one has.
func begun(parts ...int) int {
	first, second := parts[0], parts[1]
	if first == 0 && second <= 1 {
		return 0
	}
	return max(1, second)
}
