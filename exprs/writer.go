package exprs

import (
	"strconv"
	"strings"

	"belfry/api"
)

// written: the text of what may be.
func written(x api.Expr) string {
	switch x.Op {
	case api.ExInt:
		return strconv.FormatInt(x.N, 10)
	case api.ExBool:
		return strconv.FormatBool(x.N == 1)
	case api.ExName:
		return strings.Clone(x.Name)
	case api.ExNeg:
		return negated(inPlace(x.Args[0], rankOne))
	case api.ExNot:
		return "not " + inPlace(x.Args[0], rankOne)
	case api.ExPre:
		return "pre " + inPlace(x.Args[0], rankOne)
	case api.ExIf:
		return "if " + inPlace(x.Args[0], rankAny) + " then " + inPlace(x.Args[1], rankAny) + " else " + inPlace(x.Args[2], rankAny)
	}
	j, _ := joinOf(x.Op)
	return inPlace(x.Args[0], j.first) + " " + j.mark.text + " " + inPlace(x.Args[1], j.second)
}

// inPlace: as it is written in a place that asks for a rank.
func inPlace(x api.Expr, asked int) string {
	if rankOf(x.Op) < asked {
		return "(" + written(x) + ")"
	}
	return written(x)
}

// negated parts two minus signs, since together they would begin a comment.
func negated(s string) string {
	if strings.HasPrefix(s, "-") {
		return "- " + s
	}
	return "-" + s
}
