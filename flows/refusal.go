package flows

import (
	"belfry/api"
	"belfry/circles"
	"belfry/names"
	"belfry/starts"
	"belfry/types"
	"belfry/values"
)

// refusal tells why there is no meaning: the program's own faults ahead of those of what comes from without.
func refusal(p api.Prog, ins [][]int64, from []int) api.Errno {
	for _, check := range []func(api.Prog) api.Errno{names.Check, types.Check, circles.Check, starts.Check} {
		if e := check(p); e != api.OK {
			return e
		}
	}
	switch {
	case len(ins) > api.MaxRounds:
		return api.ErrLimit
	case len(from) != len(p.Ins)+len(p.Flows) || !allAsLong(ins, len(p.Ins)):
		return api.ErrArg
	case !allMayBe(ins, p.Ins):
		return api.ErrType
	}
	return api.OK
}

func allAsLong(rows [][]int64, length int) bool {
	for _, row := range rows {
		if len(row) != length {
			return false
		}
	}
	return true
}

// allMayBe asks of rows that are as long as the heads are many.
func allMayBe(rows [][]int64, heads []api.In) bool {
	for _, row := range rows {
		for place, n := range row {
			if !values.Check(api.Value{Type: heads[place].Type, N: n}) {
				return false
			}
		}
	}
	return true
}
