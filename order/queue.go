package order

import (
	"container/heap"
	"slices"
)

// queue holds the numbers that were not told yet. Each of them is ready, or waits for one other alone, the first of its list that is left: so what is kept grows with how many numbers there are, however long their lists.
type queue struct {
	left    [][]int
	told    []bool
	waiting map[int][]int // for whom, and who
	ready   least
}

func newQueue(ahead [][]int) *queue {
	q := &queue{left: slices.Clone(ahead), told: make([]bool, len(ahead)), waiting: map[int][]int{}}
	for number := range ahead {
		q.put(number)
	}
	return q
}

// put lets a number wait for the first of its list that was not told yet; it is ready where there is none.
func (q *queue) put(number int) {
	left := q.left[number]
	for len(left) > 0 && q.told[left[0]] {
		left = left[1:]
	}
	q.left[number] = left
	if len(left) == 0 {
		heap.Push(&q.ready, number)
		return
	}
	q.waiting[left[0]] = append(q.waiting[left[0]], number)
}

// tellAll tells one behind the other, while one is ready; those that wait for each other stay behind.
func (q *queue) tellAll() []int {
	var l []int
	for q.ready.Len() > 0 {
		number := heap.Pop(&q.ready).(int)
		l = append(l, number)
		q.told[number] = true
		for _, other := range q.waiting[number] {
			q.put(other)
		}
		delete(q.waiting, number)
	}
	return l
}
