package order

// least is a heap of numbers, from which the least one comes first.
type least []int

func (l least) Len() int           { return len(l) }
func (l least) Less(i, j int) bool { return l[i] < l[j] }
func (l least) Swap(i, j int)      { l[i], l[j] = l[j], l[i] }

// Push takes a number, as package heap hands it over.
func (l *least) Push(x any) { *l = append(*l, x.(int)) }

// Pop gives the last one, to which package heap has moved the least.
func (l *least) Pop() any {
	last := len(*l) - 1
	x := (*l)[last]
	*l = (*l)[:last]
	return x
}
