package circles

import (
	"iter"
	"slices"
)

// links lead from a flow to others; each flow is told by its place among the Flows.
type links map[int][]int

// needs tells of each flow whom it needs at once, and who needs it.
type needs struct {
	whom, who links
}

// leadBack: does the flow lie on a circle?
func (n needs) leadBack(home int) bool {
	for place := range n.whom.reached(home) {
		if slices.Contains(n.whom[place], home) {
			return true
		}
	}
	return false
}

// around goes from a flow that lies on a circle the shortest way back to it.
func (n needs) around(home int) []int {
	steps := map[int]int{}
	for place, far := range n.who.reached(home) {
		steps[place] = far
	}
	circle := []int{home}
	for next := nearest(n.whom[home], steps); next != home; next = nearest(n.whom[next], steps) {
		circle = append(circle, next)
	}
	return circle
}

// nearest tells the first of those places that have the fewest steps; one that has none leads nowhere.
func nearest(places []int, steps map[int]int) int {
	best, fewest := 0, -1
	for _, place := range places {
		if far, ok := steps[place]; ok && (fewest < 0 || far < fewest) {
			best, fewest = place, far
		}
	}
	return best
}

// reached goes through all that is come to from one flow on, itself first, each once, with in how few steps.
func (l links) reached(from int) iter.Seq2[int, int] {
	return func(yield func(int, int) bool) {
		steps := map[int]int{from: 0}
		for line := []int{from}; len(line) > 0; line = line[1:] {
			place := line[0]
			if !yield(place, steps[place]) {
				return
			}
			for _, next := range l[place] {
				if _, ok := steps[next]; !ok {
					steps[next] = steps[place] + 1
					line = append(line, next)
				}
			}
		}
	}
}
