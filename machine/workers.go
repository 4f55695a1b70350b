package machine

import (
	"belfry/api"
	"belfry/values"
)

// worker does instructions, of what is at places.
type worker struct {
	places  []ring[api.Value]
	instant int
	pile    []api.Value
}

// run tells what instructions leave at an instant.
func (w *worker) run(l []api.Instr, instant int) api.Value {
	w.instant, w.pile = instant, w.pile[:0]
	for _, i := range l {
		w.doer(i.Op)(i)
	}
	return w.pile[0]
}

// doer tells by what an operator's instruction is done.
func (w *worker) doer(o api.Op) func(i api.Instr) {
	switch o {
	case api.ExInt:
		return w.number
	case api.ExBool:
		return w.truth
	case api.ExName:
		return w.place
	case api.ExThen:
		return w.then
	case api.ExNeg, api.ExNot:
		return w.ofOne
	case api.ExIf:
		return w.ofThree
	}
	return w.ofTwo
}

func (w *worker) number(i api.Instr) { w.push(api.Value{Type: api.TyInt, N: i.N}) }

func (w *worker) truth(i api.Instr) { w.push(api.Value{Type: api.TyBool, N: i.N}) }

func (w *worker) place(i api.Instr) { w.push(w.places[i.N].back(i.Ago)) }

func (w *worker) then(i api.Instr) {
	taken := w.pop(2)
	if w.instant <= i.Ago {
		w.push(taken[0])
	} else {
		w.push(taken[1])
	}
}

func (w *worker) ofOne(i api.Instr) { w.operate(i.Op, 1) }

func (w *worker) ofTwo(i api.Instr) { w.operate(i.Op, 2) }

func (w *worker) ofThree(i api.Instr) { w.operate(i.Op, 3) }

// operate hears of no error: code.Check has held the types together, and no value is there that may not be.
func (w *worker) operate(o api.Op, takes int) {
	v, _ := values.Do(o, w.pop(takes))
	w.push(v)
}

func (w *worker) push(v api.Value) { w.pile = append(w.pile, v) }

// pop takes the uppermost values off the pile, the lowest one first. They stay till the next push.
func (w *worker) pop(count int) []api.Value {
	rest := len(w.pile) - count
	taken := w.pile[rest:]
	w.pile = w.pile[:rest]
	return taken
}
