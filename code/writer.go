package code

import (
	"belfry/api"
	"belfry/names"
)

// source is where a station has a name's values.
type source struct {
	place int64
	since int // the rounds from an instant on till its value is there
}

// sourcesOf finds the places of a station by their names.
func sourcesOf(p api.Prog, l []int, places []api.Place) map[string]source {
	sources := map[string]source{}
	for i, place := range places {
		s := source{place: int64(i)}
		if _, _, flow, _ := names.Find(p, place.Name); flow >= 0 {
			s.since = l[flow]
		}
		if place.Far {
			s.since++
		}
		sources[place.Name] = s
	}
	return sources
}

// writer gathers the instructions of a flow.
type writer struct {
	late    int // how many rounds the flow is late
	sources map[string]source
	done    []api.Instr
}

// write gathers those of a part of the Body that lies in so many ExPre's.
func (w *writer) write(x api.Expr, ago int) {
	within := ago
	if x.Op == api.ExPre {
		within++
	}
	for _, part := range x.Args {
		w.write(part, within)
	}
	switch x.Op {
	case api.ExPre: // has no instruction: what it is of asks for older values
	case api.ExName:
		w.done = append(w.done, w.taken(x.Name, ago))
	case api.ExThen:
		w.done = append(w.done, api.Instr{Op: x.Op, Ago: ago})
	default:
		w.done = append(w.done, api.Instr{Op: x.Op, N: x.N})
	}
}

// taken tells how a name's value of so many instants ago is taken. Its age is late.Age's, which is not called, since it holds the whole program against the list each time.
func (w *writer) taken(name string, ago int) api.Instr {
	s := w.sources[name]
	return api.Instr{Op: api.ExName, N: s.place, Ago: w.late + ago - s.since}
}
