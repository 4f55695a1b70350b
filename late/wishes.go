package late

import (
	"iter"

	"belfry/api"
	"belfry/exprs"
	"belfry/names"
)

// wish is that a flow asks for something.
type wish struct {
	flow int     // who asks
	ref  api.Ref // for what
	of   int     // its place among the flows; below 0, if it comes from without
	way  int     // the rounds that it is on its way: one, if it is far
}

// age tells how old what is asked for is, when it is taken; below 0, by how many rounds it would not be there yet.
func (w wish) age(l []int) int {
	rounds := l[w.flow] + w.ref.Ago - w.way
	if w.of >= 0 {
		rounds -= l[w.of]
	}
	return rounds
}

// wishes goes through what a flow asks for, in a program whose names are all there.
func wishes(p api.Prog, flow int) iter.Seq[wish] {
	return func(yield func(wish) bool) {
		for _, ref := range exprs.Refs(p.Flows[flow].Body) {
			station, _, of, _ := names.Find(p, ref.Name)
			w := wish{flow: flow, ref: ref, of: of}
			if station != p.Flows[flow].Station {
				w.way = 1
			}
			if !yield(w) {
				return
			}
		}
	}
}

// allWishes goes through what the flows ask for, one flow behind the other.
func allWishes(p api.Prog) iter.Seq[wish] {
	return func(yield func(wish) bool) {
		for flow := range p.Flows {
			for w := range wishes(p, flow) {
				if !yield(w) {
					return
				}
			}
		}
	}
}
