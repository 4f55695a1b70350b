package late

import "iter"

// least tells the list by which each of so many flows is as little late as it may; false, if there is no list.
func least(flows int, all iter.Seq[wish]) ([]int, bool) {
	l := make([]int, flows)
	// A turn passes each wish on by a step, at least; what grows in more turns than there are flows goes round in a ring, and never stays.
grow:
	for range flows + 1 {
		stays := true
		for w := range all {
			missing := -w.age(l)
			if missing <= 0 {
				continue
			}
			l[w.flow] += missing
			if outside(l[w.flow]) {
				break grow
			}
			stays = false
		}
		if stays {
			return l, true
		}
	}
	return nil, false
}
