package order

import (
	"fmt"
	"math"
	"slices"
	"sync"
	"testing"

	"belfry/api"
)

// shown tells something, but not all of it.
func shown(x any) string { return fmt.Sprintf("%.300s", fmt.Sprint(x)) }

// orders asks Of for these numbers.
func orders(t *testing.T, ahead [][]int, want ...int) {
	t.Helper()
	if l, e := Of(ahead); !slices.Equal(l, want) || e != api.OK {
		t.Errorf("Of(%s) = %s, %d, want %s", shown(ahead), shown(l), e, shown(want))
	}
}

// refuses asks Of for an error, and nothing beside it.
func refuses(t *testing.T, ahead [][]int, want api.Errno) {
	t.Helper()
	if l, e := Of(ahead); len(l) != 0 || e != want {
		t.Errorf("Of(%s) = %s, %d, want %d", shown(ahead), shown(l), e, want)
	}
}

// mayGo tells whether a number was not told yet, and all of its list were.
func mayGo(told []int, number int, list []int) bool {
	return !slices.Contains(told, number) && !slices.ContainsFunc(list, func(other int) bool { return !slices.Contains(told, other) })
}

// inWords tells what Of answers, in the chapter's words: each time, all numbers are gone through from 0 on.
func inWords(ahead [][]int) ([]int, api.Errno) {
	for _, list := range ahead {
		if slices.ContainsFunc(list, func(number int) bool { return number < 0 || number > len(ahead)-1 }) {
			return nil, api.ErrArg
		}
	}
	var told []int
next:
	for len(told) < len(ahead) {
		for number, list := range ahead {
			if mayGo(told, number, list) {
				told = append(told, number)
				continue next
			}
		}
		return nil, api.ErrLoop
	}
	return told, api.OK
}

// asInWords holds Of against the chapter's words, and tells its error.
func asInWords(t *testing.T, ahead [][]int) api.Errno {
	t.Helper()
	want, e := inWords(ahead)
	if e == api.OK {
		orders(t, ahead, want...)
	} else {
		refuses(t, ahead, e)
	}
	return e
}

// chance tells numbers that look like chance and are the same in each run.
func chance(seed uint64) func(below int) int {
	return func(below int) int {
		seed = seed*6364136223846793005 + 1442695040888963407
		return int(seed >> 33 % uint64(below))
	}
}

// shuffled tells the numbers from 0 on, in some order.
func shuffled(next func(int) int, count int) []int {
	l := upTo(count)
	for i := range l {
		j := i + next(count-i)
		l[i], l[j] = l[j], l[i]
	}
	return l
}

// open tells lists that have an order: each tells only such as stand ahead of it in one that chance has made.
func open(next func(int) int, count, most int) [][]int {
	ahead := make([][]int, count)
	for i, l := 0, shuffled(next, count); i < count; i++ {
		for range next(most + 1) {
			if i > 0 {
				ahead[l[i]] = append(ahead[l[i]], l[next(i)])
			}
		}
	}
	return ahead
}

// anyOf tells lists of any numbers that may be.
func anyOf(next func(int) int, count, most int) [][]int {
	ahead := make([][]int, count)
	for i := range ahead {
		for range next(most + 1) {
			ahead[i] = append(ahead[i], next(count))
		}
	}
	return ahead
}

// ring tells lists in which each number waits for the one so far behind it, the last ones for the first.
func ring(count, far int) [][]int {
	ahead := make([][]int, count)
	for i := range ahead {
		ahead[i] = []int{(i + far) % count}
	}
	return ahead
}

func upTo(count int) []int {
	l := make([]int, count)
	for i := range l {
		l[i] = i
	}
	return l
}

func downFrom(count int) []int {
	l := upTo(count)
	slices.Reverse(l)
	return l
}

func copied(ahead [][]int) [][]int {
	l := slices.Clone(ahead)
	for i := range l {
		l[i] = slices.Clone(l[i])
	}
	return l
}

func same(x, y [][]int) bool { return slices.EqualFunc(x, y, slices.Equal) }

// P13.1: the chapter's examples.
func TestExamples(t *testing.T) {
	orders(t, nil)
	orders(t, make([][]int, 3), 0, 1, 2)
	orders(t, [][]int{{2}, nil, {1}}, 1, 2, 0)
	refuses(t, [][]int{{1}, {0}}, api.ErrLoop)
	refuses(t, [][]int{{0}}, api.ErrLoop)
	refuses(t, [][]int{{1}}, api.ErrArg)
	refuses(t, [][]int{{-1}}, api.ErrArg)
	orders(t, [][]int{{3}, nil, nil, nil}, 1, 2, 3, 0)
}

// P13.1: no lists, and empty ones; R4: nil and empty mean the same.
func TestEmpty(t *testing.T) {
	orders(t, [][]int{})
	orders(t, [][]int{nil}, 0)
	orders(t, [][]int{{}}, 0)
	orders(t, [][]int{nil, {}, nil, {}, {}}, 0, 1, 2, 3, 4)
	for _, count := range []int{1, 2, 7, 64, 1000, 100000} {
		orders(t, make([][]int, count), upTo(count)...)
	}
}

// wrong tells numbers that may not be in so many lists, also such as would be right, if they were cut to fewer bits.
func wrong(count int) []int {
	return []int{-1, -2, -count, count, count + 1, 2 * count, 1 << 8, 1 << 16, 1 << 31, 1<<32 | 1, -1 << 31, -1 << 32, math.MaxInt, math.MinInt, math.MinInt + 1}
}

// P13.1: a number that has no list, in any list and at any place of it.
func TestNumberNotThere(t *testing.T) {
	for _, count := range []int{1, 2, 3, 8} {
		for _, number := range wrong(count) {
			for i := range count {
				ahead := make([][]int, count)
				ahead[i] = []int{number}
				refuses(t, ahead, api.ErrArg)
				other := (i + 1) % count
				for _, list := range [][]int{{number, other, other}, {other, number, other}, {other, other, number}, {number, number}} {
					ahead[i] = list
					refuses(t, ahead, api.ErrArg)
				}
			}
		}
	}
}

// P13.1: the numbers at the edges, which may be.
func TestNumbersAtTheEdges(t *testing.T) {
	for count := 2; count < 40; count++ {
		ahead := make([][]int, count)
		ahead[0] = []int{count - 1}
		orders(t, ahead, append(upTo(count)[1:], 0)...)
		ahead[0], ahead[count-1] = nil, []int{0}
		orders(t, ahead, upTo(count)...)
	}
}

// P13.1, R2: ErrArg is ahead of ErrLoop, wherever the wrong number stands and whoever waits.
func TestNumberNotThereFirst(t *testing.T) {
	const count = 6
	loops := [][][]int{ring(count, 1), ring(count, 0), {{0}, nil, nil, nil, nil, nil}, {nil, nil, nil, nil, nil, {5}}, {{1}, {0}, nil, nil, nil, nil}, {nil, nil, nil, nil, {5}, {4}}}
	for _, loop := range loops {
		refuses(t, loop, api.ErrLoop)
		for i := range count {
			for _, number := range wrong(count) {
				ahead := copied(loop)
				ahead[i] = append(ahead[i], number)
				refuses(t, ahead, api.ErrArg)
				ahead[i] = []int{number}
				refuses(t, ahead, api.ErrArg)
			}
		}
	}
	refuses(t, [][]int{{0}, {2}}, api.ErrArg)
	refuses(t, [][]int{{0, -1}}, api.ErrArg)
}

// P13.1: a list that tells its own number, alone and among others.
func TestItself(t *testing.T) {
	for _, count := range []int{1, 2, 3, 50} {
		for i := range count {
			ahead := make([][]int, count)
			ahead[i] = []int{i}
			refuses(t, ahead, api.ErrLoop)
			ahead[i] = []int{(i + 1) % count, i, i}
			refuses(t, ahead, api.ErrLoop)
		}
		refuses(t, ring(count, 0), api.ErrLoop)
	}
}

// P13.1: some that wait for each other, few or many.
func TestRings(t *testing.T) {
	for _, count := range []int{2, 3, 4, 9, 128, 1000, 100000} {
		for _, far := range []int{1, 2, count / 2, count - 1} {
			refuses(t, ring(count, far), api.ErrLoop)
		}
		opened := ring(count, 1)
		opened[count-1] = nil
		orders(t, opened, downFrom(count)...)
	}
}

// P13.1: a ring is refused also where others could go, ahead of it, behind it or between.
func TestRingBesideOthers(t *testing.T) {
	refuses(t, [][]int{nil, {2}, {1}}, api.ErrLoop)
	refuses(t, [][]int{{1}, {0}, nil}, api.ErrLoop)
	refuses(t, [][]int{{2}, nil, {0}}, api.ErrLoop)
	refuses(t, [][]int{nil, {0, 2}, {0, 3}, {0, 1}, {0}}, api.ErrLoop)
	const count = 100
	for i := range count {
		for _, j := range []int{0, 1, 50, 98, 99} {
			ahead := make([][]int, count)
			ahead[i] = []int{j}
			ahead[j] = []int{i}
			refuses(t, ahead, api.ErrLoop)
		}
	}
}

// P13.1: who waits for a ring, and is on none, can't go either; who is waited for by a ring can, and it is of no use.
func TestHangsOnARing(t *testing.T) {
	refuses(t, [][]int{{1}, {2}, {1}, nil}, api.ErrLoop)
	refuses(t, [][]int{nil, {0, 2}, {0, 1}}, api.ErrLoop)
	refuses(t, [][]int{nil, {2, 0}, {1, 0}}, api.ErrLoop)
	refuses(t, [][]int{{1, 2}, nil, {0, 1}}, api.ErrLoop)
}

// P13.1: next is the least of all that may go, also where a greater one could go earlier.
func TestLeastOfAll(t *testing.T) {
	orders(t, [][]int{{1}, nil, nil}, 1, 0, 2)
	orders(t, [][]int{{2}, {2}, nil, nil}, 2, 0, 1, 3)
	orders(t, [][]int{{1}, {2}, nil, nil, nil}, 2, 1, 0, 3, 4)
	orders(t, [][]int{{4}, nil, {1}, nil, nil, {0}}, 1, 2, 3, 4, 0, 5)
	orders(t, [][]int{{3}, {4}, nil, nil, nil}, 2, 3, 0, 4, 1)
	orders(t, [][]int{{5}, {0}, {5}, nil, {1}, {3}}, 3, 5, 0, 1, 2, 4)
	orders(t, [][]int{{9}, {9}, {9}, {8}, {8}, {8}, nil, nil, nil, nil}, 6, 7, 8, 3, 4, 5, 9, 0, 1, 2)
}

// P13.1: many become ready at once, behind one that many wait for, while others are ready longer.
func TestManyReady(t *testing.T) {
	const count = 1000
	ahead := make([][]int, count)
	var want []int
	for i := range count / 2 {
		ahead[i] = []int{count/2 + i}
		want = append(want, count/2+i, i)
	}
	orders(t, ahead, want...)
	for i := range count / 2 {
		ahead[count/2-1-i] = []int{count/2 + i}
	}
	asInWords(t, ahead)
}

// P13.2: a number that is told twice or many times in a list is as if once.
func TestToldTwice(t *testing.T) {
	orders(t, [][]int{{1, 1}, nil}, 1, 0)
	orders(t, [][]int{{1, 1}, nil, {0, 1, 0}}, 1, 0, 2)
	orders(t, [][]int{{2, 1, 2, 1, 1, 2}, nil, nil}, 1, 2, 0)
	refuses(t, [][]int{{0, 0}}, api.ErrLoop)
	refuses(t, [][]int{{1, 1}, {0, 0}}, api.ErrLoop)
	refuses(t, [][]int{{1, 1}, {2, 2}}, api.ErrArg)
	many := make([]int, 300000)
	for i := range many {
		many[i] = 1 + i%2
	}
	orders(t, [][]int{many, nil, nil}, 1, 2, 0)
	orders(t, [][]int{many, many[:0], many[:1]}, 1, 2, 0)
	next := chance(131)
	for range 2000 {
		ahead := anyOf(next, 1+next(9), 2)
		want, wantErr := Of(ahead)
		for i := range ahead {
			for range next(4) {
				if len(ahead[i]) > 0 {
					ahead[i] = slices.Insert(ahead[i], next(len(ahead[i])), ahead[i][next(len(ahead[i]))])
				}
			}
		}
		if l, e := Of(ahead); !slices.Equal(l, want) || e != wantErr {
			t.Fatalf("Of(%v) = %v, %d, want %v, %d", ahead, l, e, want, wantErr)
		}
	}
}

// P13.1: a list's own order says nothing.
func TestOrderWithinAList(t *testing.T) {
	next := chance(132)
	for range 2000 {
		ahead := anyOf(next, 1+next(9), 3)
		want, wantErr := Of(ahead)
		for i := range ahead {
			turned := make([]int, 0, len(ahead[i]))
			for _, j := range shuffled(next, len(ahead[i])) {
				turned = append(turned, ahead[i][j])
			}
			ahead[i] = turned
		}
		if l, e := Of(ahead); !slices.Equal(l, want) || e != wantErr {
			t.Fatalf("Of(%v) = %v, %d, want %v, %d", ahead, l, e, want, wantErr)
		}
	}
}

// P13.1: a chain that goes up, one that goes down, and one that goes here and there.
func TestChains(t *testing.T) {
	for _, count := range []int{2, 3, 10, 1000, 300000} {
		up, down, some := make([][]int, count), make([][]int, count), make([][]int, count)
		turned := shuffled(chance(133), count)
		for i := 1; i < count; i++ {
			up[i] = []int{i - 1}
			down[i-1] = []int{i}
			some[turned[i]] = []int{turned[i-1]}
		}
		orders(t, up, upTo(count)...)
		orders(t, down, downFrom(count)...)
		orders(t, some, turned...)
	}
}

// P13.1: one that waits for all others, and one that all others wait for.
func TestOneAndAllOthers(t *testing.T) {
	for _, count := range []int{2, 3, 17, 1000} {
		for _, one := range []int{0, count / 2, count - 1} {
			others := slices.Delete(upTo(count), one, one+1)
			waits, waitedFor := make([][]int, count), make([][]int, count)
			waits[one] = others
			for _, other := range others {
				waitedFor[other] = []int{one}
			}
			orders(t, waits, slices.Concat(others, []int{one})...)
			orders(t, waitedFor, slices.Concat([]int{one}, others)...)
			waitedFor[one] = []int{others[len(others)-1]}
			refuses(t, waitedFor, api.ErrLoop)
		}
	}
}

// P13.1: each waits for all that are less, or for all that are greater; one more, and there is none that may go.
func TestFullLists(t *testing.T) {
	const count = 700
	less, greater := make([][]int, count), make([][]int, count)
	for i := range count {
		less[i] = upTo(i)
		greater[i] = upTo(count)[i+1:]
	}
	orders(t, less, upTo(count)...)
	orders(t, greater, downFrom(count)...)
	less[0], greater[count-1] = []int{count - 1}, []int{0}
	refuses(t, less, api.ErrLoop)
	refuses(t, greater, api.ErrLoop)
}

// P13.1: all lists of numbers that may be, of up to four lists.
func TestAllSmall(t *testing.T) {
	for count := range 5 {
		orderly := 0
		for marks := range 1 << (count * count) {
			ahead := make([][]int, count)
			for bit := range count * count {
				if marks>>bit&1 == 1 {
					ahead[bit/count] = append(ahead[bit/count], bit%count)
				}
			}
			if asInWords(t, ahead) == api.OK {
				orderly++
			}
		}
		// How many there are without a ring is known: 1, 1, 3, 25, 543.
		if want := []int{1, 1, 3, 25, 543}[count]; orderly != want {
			t.Errorf("%d lists: %d have an order, want %d", count, orderly, want)
		}
	}
}

// P13.1: all lists of up to two numbers, right or wrong ones, twice the same too, of up to three lists.
func TestAllSmallWithWrong(t *testing.T) {
	for count := 1; count < 4; count++ {
		choices := [][]int{nil}
		for one := -1; one <= count; one++ {
			choices = append(choices, []int{one})
			for two := -1; two <= count; two++ {
				choices = append(choices, []int{one, two})
			}
		}
		ahead := make([][]int, count)
		var fill func(place int)
		fill = func(place int) {
			if place == count {
				asInWords(t, ahead)
				return
			}
			for _, list := range choices {
				ahead[place] = list
				fill(place + 1)
			}
		}
		fill(0)
	}
}

// P13.1: many lists, by chance: such as have an order, such as may have none, and such as have a wrong number.
func TestMany(t *testing.T) {
	next := chance(134)
	seen := map[api.Errno]int{}
	for range 3000 {
		count := 1 + next(30)
		seen[asInWords(t, open(next, count, next(5)))]++
		seen[asInWords(t, anyOf(next, count, 1+next(3)))]++
		bad := open(next, count, 3)
		i := next(count)
		bad[i] = slices.Insert(bad[i], next(len(bad[i])+1), wrong(count)[next(4)])
		seen[asInWords(t, bad)]++
	}
	if seen[api.OK] < 3000 || seen[api.ErrLoop] < 1000 || seen[api.ErrArg] < 3000 {
		t.Errorf("too few of one kind: %v", seen)
	}
	for range 20 {
		asInWords(t, open(next, 150, 3))
	}
}

// P13.2: each number stands once, behind all that its list tells.
func TestEachOnceBehindItsList(t *testing.T) {
	next := chance(135)
	for range 200 {
		ahead := open(next, 1+next(2000), 4)
		l, e := Of(ahead)
		if e != api.OK || len(l) != len(ahead) {
			t.Fatalf("Of(%s) = %s, %d", shown(ahead), shown(l), e)
		}
		place := make([]int, len(ahead))
		for i, number := range l {
			if number < 0 || number >= len(ahead) || place[number] != 0 {
				t.Fatalf("Of(%s) = %s: %d", shown(ahead), shown(l), number)
			}
			place[number] = i + 1
		}
		for number, list := range ahead {
			for _, other := range list {
				if place[other] >= place[number] {
					t.Fatalf("Of(%s) = %s: %d is behind %d", shown(ahead), shown(l), other, number)
				}
			}
		}
	}
}

// P13.2: lists that tell less leave an order, where there was one.
func TestToldLess(t *testing.T) {
	next := chance(136)
	for range 500 {
		for ahead := open(next, 2+next(12), 3); ; {
			if e := asInWords(t, ahead); e != api.OK {
				t.Fatalf("Of(%v): %d", ahead, e)
			}
			full := slices.IndexFunc(ahead, func(list []int) bool { return len(list) > 0 })
			if full < 0 {
				break
			}
			at := next(len(ahead[full]))
			ahead[full] = slices.Delete(ahead[full], at, at+1)
		}
	}
}

// withRoom tells the same in lists with spare room that is filled, and whether all of it is still so.
func withRoom(ahead [][]int) ([][]int, func() bool) {
	all := copied(append(slices.Clone(ahead), []int{0, 1}))
	for i := range all {
		all[i] = append(all[i], -3, -1)
	}
	before := copied(all)
	mine := make([][]int, len(all))
	for i := range all {
		mine[i] = all[i][:len(all[i])-2]
	}
	whole := mine
	return mine[:len(ahead)], func() bool {
		return same(all, before) && same(whole[:len(ahead)], ahead) && slices.Equal(whole[len(ahead)], []int{0, 1})
	}
}

// R4: what is handed in stays as it was, its spare room too, whatever is answered; and spare room counts for nothing.
func TestArgumentsStay(t *testing.T) {
	next := chance(137)
	list := [][][]int{nil, {nil}, {{0}}, {{1}}, {{-1}}, ring(9, 1), ring(9, 0), make([][]int, 9), {{2, 1, 2}, nil, {1, 1}}}
	for range 500 {
		list = append(list, open(next, 1+next(9), 3), anyOf(next, 1+next(9), 2))
	}
	for _, ahead := range list {
		mine, stays := withRoom(ahead)
		want, wantErr := Of(ahead)
		if l, e := Of(mine); !slices.Equal(l, want) || e != wantErr {
			t.Errorf("spare room of %v counts: %v, %d", ahead, l, e)
		}
		asInWords(t, mine)
		if !stays() {
			t.Errorf("%v is changed", ahead)
		}
	}
}

// R4: an answer that is changed, its spare room too, changes neither what was handed in nor another answer.
func TestAnswersAreNew(t *testing.T) {
	for _, ahead := range [][][]int{{nil}, make([][]int, 5), {{2}, nil, {1}}, {{1, 2, 3}, nil, nil, nil}, {nil, {0}, {0, 1}, {0, 1, 2}}} {
		before := copied(ahead)
		one, _ := Of(ahead)
		two, _ := Of(ahead)
		want := slices.Clone(two)
		one = one[:cap(one)]
		for i := range one {
			one[i] = -7
		}
		if !slices.Equal(two, want) || !same(ahead, before) {
			t.Errorf("%v of %v", two, ahead)
		}
		orders(t, ahead, want...)
	}
}

// R4: what is handed in is not kept: when it is changed, an answer stays, and the next one is of what it is then.
func TestNothingKept(t *testing.T) {
	ahead := [][]int{{1, 2}, nil, {1}}
	l, _ := Of(ahead)
	want := []int{1, 2, 0}
	ahead[0][0], ahead[0][1], ahead[2][0] = 0, 0, 0
	if !slices.Equal(l, want) {
		t.Errorf("%v", l)
	}
	refuses(t, ahead, api.ErrLoop)
	ahead[0][0] = 9
	refuses(t, ahead, api.ErrArg)
	ahead[0] = nil
	orders(t, ahead, 0, 1, 2)
	if !slices.Equal(l, want) {
		t.Errorf("%v", l)
	}
}

// R1, R4: lists that share their memory, with each other and with what lies around, are as others.
func TestListsThatShare(t *testing.T) {
	numbers := upTo(400)
	ahead := make([][]int, len(numbers))
	for i := range ahead {
		ahead[i] = numbers[:i]
	}
	orders(t, ahead, numbers...)
	for i := range ahead {
		ahead[i] = numbers[i+1:]
	}
	orders(t, ahead, downFrom(len(numbers))...)
	for i := range ahead {
		ahead[i] = numbers[:]
	}
	refuses(t, ahead, api.ErrLoop)
	if !slices.Equal(numbers, upTo(400)) {
		t.Errorf("%v", numbers)
	}
}

// R1: great lists come to an end, also where all of one list's numbers were told long ago.
func TestGreat(t *testing.T) {
	const count = 3000
	numbers := upTo(count)
	ahead := make([][]int, count)
	for i := range ahead {
		ahead[i] = numbers[:i]
	}
	orders(t, ahead, numbers...)
	ahead[0] = []int{count - 1}
	refuses(t, ahead, api.ErrLoop)
	ahead[0] = []int{count}
	refuses(t, ahead, api.ErrArg)
	next := chance(138)
	if _, e := Of(open(next, 200000, 4)); e != api.OK {
		t.Errorf("%d", e)
	}
}

// R5: what is answered hangs on nothing but what is handed in, however many ask at once, and however often.
func TestAtOnce(t *testing.T) {
	next := chance(139)
	var list [][][]int
	for range 60 {
		list = append(list, open(next, 1+next(20), 3), anyOf(next, 1+next(20), 2))
	}
	var group sync.WaitGroup
	for range 8 {
		group.Go(func() {
			for _, ahead := range list {
				asInWords(t, ahead)
			}
		})
	}
	group.Wait()
}
