package heap

import (
	"math"
	"slices"
	"testing"

	"fellrunner/api"
	"fellrunner/cost"
)

// die: numbers that look drawn, the same each time.
type die uint64

func (d *die) n(most int) int {
	*d = *d*6364136223846793005 + 1442695040888963407
	return int(uint64(*d>>33) % uint64(most))
}

func c(s, d int) api.Cost { return api.Cost{S: s, D: d} }

func push(t *testing.T, h *Heap, id int, x api.Cost, want bool) {
	t.Helper()
	if got := h.Push(id, x); got != want {
		t.Errorf("Push(%d, %v) = %v, want %v", id, x, got, want)
	}
}

func checkPop(t *testing.T, h *Heap, id int, x api.Cost) {
	t.Helper()
	if gotID, gotCost, is := h.Pop(); gotID != id || gotCost != x || !is {
		t.Errorf("Pop() = %d, %v, %v, want %d, %v", gotID, gotCost, is, id, x)
	}
	checkGone(t, h, id)
}

func checkThere(t *testing.T, h *Heap, id int, x api.Cost) {
	t.Helper()
	if got, is := h.Cost(id); got != x || !is {
		t.Errorf("Cost(%d) = %v, %v, want %v", id, got, is, x)
	}
}

func checkGone(t *testing.T, h *Heap, id int) {
	t.Helper()
	if got, is := h.Cost(id); got != c(0, 0) || is {
		t.Errorf("Cost(%d) = %v, %v, want none", id, got, is)
	}
}

func checkLen(t *testing.T, h *Heap, want int) {
	t.Helper()
	if got := h.Len(); got != want {
		t.Errorf("Len() = %d, want %d", got, want)
	}
}

func checkNone(t *testing.T, h *Heap) {
	t.Helper()
	checkLen(t, h, 0)
	for range 2 {
		if id, x, is := h.Pop(); id != 0 || x != c(0, 0) || is {
			t.Errorf("Pop() of none = %d, %v, %v", id, x, is)
		}
	}
	checkLen(t, h, 0)
}

// D1, Z1: a heap with none, new or popped bare.
func TestNone(t *testing.T) {
	h := New()
	checkNone(t, h)
	for _, id := range []int{0, 1, -1, math.MinInt, math.MaxInt} {
		checkGone(t, h, id)
	}
	checkLen(t, h, 0)
	push(t, h, 5, c(2, 3), true)
	checkPop(t, h, 5, c(2, 3))
	checkNone(t, h)
	push(t, h, 6, c(0, 0), true)
	checkLen(t, h, 1)
	checkThere(t, h, 6, c(0, 0))
	checkPop(t, h, 6, c(0, 0))
	checkNone(t, h)
}

// D1: asks change nothing.
func TestAsksChangeNothing(t *testing.T) {
	h := New()
	push(t, h, 4, c(1, 1), true)
	push(t, h, 3, c(0, 1), true)
	for range 3 {
		checkThere(t, h, 4, c(1, 1))
		checkThere(t, h, 3, c(0, 1))
		checkGone(t, h, 5)
		checkLen(t, h, 2)
	}
	push(t, h, 5, c(9, 9), true)
	checkPop(t, h, 3, c(0, 1))
	checkPop(t, h, 4, c(1, 1))
	checkPop(t, h, 5, c(9, 9))
	checkNone(t, h)
}

// D1: a number that is there stands by the lesser cost, and stands there once.
func TestPushAgain(t *testing.T) {
	h := New()
	push(t, h, 1, c(4, 0), true)
	push(t, h, 2, c(3, 0), true)
	push(t, h, 1, c(4, 0), false)
	push(t, h, 1, c(5, 0), false)
	push(t, h, 1, c(4, 1), false)
	checkThere(t, h, 1, c(4, 0))
	checkLen(t, h, 2)
	push(t, h, 1, c(2, 0), true)
	checkThere(t, h, 1, c(2, 0))
	checkThere(t, h, 2, c(3, 0))
	checkLen(t, h, 2)
	push(t, h, 1, c(4, 0), false)
	push(t, h, 2, c(0, 0), true)
	checkPop(t, h, 2, c(0, 0))
	checkPop(t, h, 1, c(2, 0))
	checkNone(t, h)
}

// D1, A2: whether a cost is less is told exactly: by neither of its two numbers, nor by a rounded sum.
func TestPushAgainByANearCost(t *testing.T) {
	pairs := []struct{ less, more api.Cost }{
		{c(1, 0), c(0, 1)}, {c(0, 1), c(2, 0)}, {c(7, 0), c(0, 5)}, {c(0, 5), c(8, 0)}, {c(0, 70), c(99, 0)},
		{c(7, 3), c(0, 8)}, {c(275807, 0), c(0, 195025)}, {c(0, 470832), c(665857, 0)},
		{c(275807, api.Far-195025), c(0, api.Far)}, {c(api.Far-665857, api.Far), c(api.Far, api.Far-470832)},
	}
	for _, p := range pairs {
		h := New()
		push(t, h, 8, p.more, true)
		push(t, h, 8, p.less, true)
		checkThere(t, h, 8, p.less)
		push(t, h, 8, p.more, false)
		push(t, h, 8, p.less, false)
		checkThere(t, h, 8, p.less)
		checkLen(t, h, 1)
		checkPop(t, h, 8, p.less)
	}
}

// D1, A2: the least cost comes first, exactly, whatever the numbers are.
func TestPopByNearCosts(t *testing.T) {
	rising := []api.Cost{
		c(0, 0), c(1, 0), c(0, 1), c(2, 0), c(1, 1), c(0, 2), c(3, 0), c(7, 0), c(0, 5), c(8, 0), c(98, 0), c(0, 70), c(99, 0),
		c(275807, 0), c(0, 195025), c(0, 470832), c(665857, 0), c(api.Far, 0),
		c(275807, api.Far-195025), c(0, api.Far), c(api.Far, api.Far),
	}
	many := len(rising)
	for _, sign := range []int{1, -1} {
		// By steps that leave none out, so that the order of pushing doesn't help.
		for _, by := range []int{1, 4, 10, many - 1} {
			h := New()
			for i := range many {
				at := (i*by + 5) % many
				push(t, h, sign*at, rising[at], true)
			}
			for at, x := range rising {
				checkPop(t, h, sign*at, x)
			}
			checkNone(t, h)
		}
	}
}

// D1: of several with the same cost the least number comes first, below 0 and at both ends, too.
func TestPopBySameCost(t *testing.T) {
	ids := []int{math.MinInt, math.MinInt + 1, -7, -1, 0, 1, 2, 3, 10, 255, 256, math.MaxInt - 1, math.MaxInt}
	for first := range ids {
		for _, by := range []int{1, 5, len(ids) - 1} {
			h := New()
			for i := range ids {
				push(t, h, ids[(first+i*by)%len(ids)], c(3, 2), true)
			}
			checkLen(t, h, len(ids))
			for _, id := range ids {
				checkPop(t, h, id, c(3, 2))
			}
			checkNone(t, h)
		}
	}
}

// D1: the cost is looked at ahead of the number.
func TestPopByCostThenNumber(t *testing.T) {
	h := New()
	for _, id := range []int{6, 2, 9, 4} {
		push(t, h, id, c(0, 1), true)
		push(t, h, -id, c(2, 0), true)
		push(t, h, 100+id, c(1, 0), true)
	}
	for _, id := range []int{102, 104, 106, 109} {
		checkPop(t, h, id, c(1, 0))
	}
	for _, id := range []int{2, 4, 6, 9} {
		checkPop(t, h, id, c(0, 1))
	}
	for _, id := range []int{-9, -6, -4, -2} {
		checkPop(t, h, id, c(2, 0))
	}
	checkNone(t, h)
}

// D1: a number that was popped is there no more, so any cost does when it is pushed again.
func TestPoppedAndPushedAgain(t *testing.T) {
	h := New()
	push(t, h, 1, c(1, 0), true)
	push(t, h, 2, c(2, 0), true)
	checkPop(t, h, 1, c(1, 0))
	checkLen(t, h, 1)
	push(t, h, 1, c(5, 0), true)
	checkThere(t, h, 1, c(5, 0))
	checkPop(t, h, 2, c(2, 0))
	push(t, h, 2, c(2, 0), true)
	checkPop(t, h, 2, c(2, 0))
	checkPop(t, h, 1, c(5, 0))
	push(t, h, 1, c(0, 0), true)
	checkPop(t, h, 1, c(0, 0))
	checkNone(t, h)
}

// D1: a number that lies deep and gets a lesser cost comes up just as far as it belongs.
func TestLowerFromTheDeep(t *testing.T) {
	const many = 200
	for to := range 40 {
		h := New()
		for id := range many {
			push(t, h, id, c(10+id, 0), true)
		}
		low := c(4*to, 1)
		lowered := many - 1 - to
		push(t, h, lowered, low, true)
		var last api.Cost
		for range many {
			id, x, is := h.Pop()
			want := c(10+id, 0)
			if id == lowered {
				want = low
			}
			if !is || x != want || cost.Less(x, last) {
				t.Fatalf("Pop() = %d, %v, %v behind %v, want %v", id, x, is, last, want)
			}
			last = x
		}
		checkNone(t, h)
	}
}

// D1: what is pushed in any order is popped in one.
func TestOneOrder(t *testing.T) {
	type pair struct {
		id int
		c  api.Cost
	}
	var all []pair
	for id := range 120 {
		all = append(all, pair{id, c(id%7, id%5)})
	}
	want := slices.Clone(all)
	slices.SortStableFunc(want, func(a, b pair) int { return cost.Compare(a.c, b.c) })
	d := die(6)
	for range 30 {
		for i := range all {
			j := d.n(len(all))
			all[i], all[j] = all[j], all[i]
		}
		h := New()
		for _, p := range all {
			push(t, h, p.id, p.c, true)
		}
		for _, p := range want {
			checkPop(t, h, p.id, p.c)
		}
		checkNone(t, h)
	}
}

// plain: a heap as the words of D1 tell it, without any order of its own.
type plain map[int]api.Cost

func (p plain) push(id int, x api.Cost) bool {
	if old, is := p[id]; is && cost.Compare(old, x) <= 0 {
		return false
	}
	p[id] = x
	return true
}

func (p plain) pop() (int, api.Cost, bool) {
	first, is := 0, false
	for id, x := range p {
		order := cost.Compare(x, p[first])
		if !is || order < 0 || order == 0 && id < first {
			first, is = id, true
		}
	}
	x := p[first]
	delete(p, first)
	return first, x, is
}

// D1: drawn sessions, each step held against a plain heap.
func TestDrawn(t *testing.T) {
	d := die(5)
	for range 150 {
		h, p := New(), plain{}
		many := []int{2, 8, 60}[d.n(3)]
		most := []int{3, 8, api.Far + 1}[d.n(3)]
		pops := 2 + d.n(4)
		for range 150 {
			if d.n(pops) == 0 {
				wantID, want, wantIs := p.pop()
				if id, x, is := h.Pop(); id != wantID || x != want || is != wantIs {
					t.Fatalf("Pop() = %d, %v, %v, want %d, %v, %v", id, x, is, wantID, want, wantIs)
				}
			} else {
				id, x := d.n(many)-many/2, c(d.n(most), d.n(most))
				push(t, h, id, x, p.push(id, x))
			}
			checkLen(t, h, len(p))
			for id := -many / 2; id < many; id++ {
				if x, is := p[id]; is {
					checkThere(t, h, id, x)
				} else {
					checkGone(t, h, id)
				}
			}
		}
	}
}

// Z2: what is done to one heap isn't seen in another.
func TestHeapsApart(t *testing.T) {
	a, b := New(), New()
	push(t, a, 1, c(1, 0), true)
	checkNone(t, b)
	checkGone(t, b, 1)
	push(t, b, 1, c(2, 0), true)
	checkThere(t, a, 1, c(1, 0))
	checkPop(t, a, 1, c(1, 0))
	checkThere(t, b, 1, c(2, 0))
	checkPop(t, b, 1, c(2, 0))
}

// Z1: nothing is told of such costs, but no call may fall over them, or lose a number.
func TestNothingPanics(t *testing.T) {
	wild := []int{math.MinInt, math.MinInt + 1, -api.Far, -1, 0, 1, api.Far + 1, math.MaxInt - 1, math.MaxInt}
	h := New()
	for i, s := range wild {
		for j, x := range wild {
			h.Push(i*len(wild)+j, c(s, x))
			h.Push(wild[j], c(x, s))
			h.Cost(s)
		}
	}
	for n := h.Len(); n > 0; n-- {
		checkLen(t, h, n)
		if _, _, is := h.Pop(); !is {
			t.Fatalf("none of %d is popped", n)
		}
	}
	checkNone(t, h)
}
