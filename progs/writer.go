package progs

import (
	"strconv"
	"strings"

	"belfry/api"
	"belfry/exprs"
)

const lineEnd = ";\n"

// written: the text of what may be, however long.
func written(p api.Prog) string {
	lines := []string{"stations " + strconv.Itoa(p.Stations)}
	for _, in := range p.Ins {
		lines = append(lines, "in "+headText(in))
	}
	for _, f := range p.Flows {
		lines = append(lines, flowText(f))
	}
	for _, name := range p.Outs {
		lines = append(lines, "out "+name)
	}
	return strings.Join(lines, lineEnd) + lineEnd
}

func flowText(f api.Flow) string {
	body, _ := exprs.Text(f.Body) // no error, since the program may be
	return "flow " + headText(headOf(f)) + " default " + valueText(f.Type, f.Default) + " = " + body
}

func headText(head api.In) string {
	return head.Name + ": " + typeText(head.Type) + " at " + strconv.Itoa(head.Station)
}

func typeText(t api.Type) string {
	if t == api.TyBool {
		return "bool"
	}
	return "int"
}

func valueText(t api.Type, n int64) string {
	if t == api.TyBool && (n == 0 || n == 1) {
		return strconv.FormatBool(n == 1)
	}
	return strconv.FormatInt(n, 10)
}
