package cost

import (
	"math"
	"math/big"
	"testing"

	"fellrunner/api"
)

func c(s, d int) api.Cost { return api.Cost{S: s, D: d} }

// die: numbers that look drawn, the same each time.
type die uint64

func (d *die) n(most int) int {
	*d = *d*6364136223846793005 + 1442695040888963407
	return int(uint64(*d>>33) % uint64(most))
}

// root2 to far more places than a cost may have, so that it can judge Compare by another road than squares.
var root2 = new(big.Float).SetPrec(400).Sqrt(big.NewFloat(2).SetPrec(400))

func worth(c api.Cost) *big.Float {
	diagonal := new(big.Float).SetPrec(400).SetInt64(int64(c.D))
	diagonal.Mul(diagonal, root2)
	return diagonal.Add(diagonal, new(big.Float).SetPrec(400).SetInt64(int64(c.S)))
}

func checkPair(t *testing.T, a, b api.Cost, want int) {
	t.Helper()
	if got := Compare(a, b); got != want {
		t.Errorf("Compare(%v, %v) = %d, want %d", a, b, got, want)
	}
	if got := Compare(b, a); got != -want {
		t.Errorf("Compare(%v, %v) = %d, want %d", b, a, got, -want)
	}
	if got := Less(a, b); got != (want < 0) {
		t.Errorf("Less(%v, %v) = %v", a, b, got)
	}
	if got := Less(b, a); got != (want > 0) {
		t.Errorf("Less(%v, %v) = %v", b, a, got)
	}
}

// A1, Z3: the bounds of both numbers, and a bare error.
func TestCheck(t *testing.T) {
	const far = api.Far
	good := []api.Cost{c(0, 0), c(1, 0), c(0, 1), c(far, 0), c(0, far), c(far, far), c(far-1, 7)}
	for _, x := range good {
		if err := Check(x); err != nil {
			t.Errorf("Check(%v) = %v, want none", x, err)
		}
	}
	bad := []api.Cost{
		c(-1, 0), c(0, -1), c(-1, -1), c(far+1, 0), c(0, far+1), c(far+1, far+1), c(-1, far), c(far, -1),
		c(2*far, 2*far), c(math.MinInt, 0), c(0, math.MinInt), c(math.MaxInt, 0), c(0, math.MaxInt),
		c(math.MaxInt, math.MaxInt), c(math.MinInt, math.MaxInt),
	}
	for _, x := range bad {
		if err := Check(x); err != error(api.ErrBound) {
			t.Errorf("Check(%v) = %v, want ErrBound", x, err)
		}
	}
}

// A2: what the document tells, and the nearest pairs that costs of up to 2 times Far can make.
func TestComparePairs(t *testing.T) {
	const far = api.Far
	cases := []struct {
		a, b api.Cost
		want int
	}{
		{c(0, 0), c(0, 0), 0},
		{c(3, 4), c(3, 4), 0},
		{c(1, 0), c(0, 1), -1},
		{c(2, 0), c(0, 1), 1},
		{c(7, 0), c(0, 5), -1},
		{c(8, 0), c(0, 5), 1},
		{c(99, 0), c(0, 70), 1},
		{c(98, 0), c(0, 70), -1},
		{c(41, 0), c(0, 29), -1},
		{c(7, 3), c(0, 8), -1},
		{c(0, 7), c(9, 0), 1},
		{c(5, 9), c(5, 8), 1},
		{c(4, 9), c(5, 9), -1},
		{c(4, 8), c(5, 9), -1},
		{c(665857, 0), c(0, 470832), 1},
		{c(275807, 0), c(0, 195025), -1},
		{c(1607521, 0), c(0, 1136689), -1},
		{c(far, 0), c(0, 741456), -1},
		{c(far, 0), c(0, 741455), 1},
		{c(far, far), c(far, far), 0},
		{c(2*far, 2*far), c(2*far, 2*far), 0},
		{c(2*far, 0), c(0, 2*far), -1},
		{c(2*far, 2*far), c(0, 0), 1},
		{c(2*far, 2*far-1), c(2*far-1, 2*far), -1},
	}
	for _, k := range cases {
		checkPair(t, k.a, k.b, k.want)
	}
}

// A2: every pair of p straight steps and q diagonal ones where p to q comes nearest to the root of 2.
func TestCompareNearestFractions(t *testing.T) {
	sign := -1
	for p, q := 1, 1; p <= 2*api.Far; p, q = p+2*q, p+q {
		checkPair(t, c(p, 0), c(0, q), sign)
		checkPair(t, c(p, 2*api.Far-q), c(0, 2*api.Far), sign)
		sign = -sign
	}
}

// A2: drawn costs, held against a root of 2 of 400 bits.
func TestCompareDrawn(t *testing.T) {
	d := die(1)
	for _, most := range []int{12, 2000, 2*api.Far + 1, 1024*api.Far + 1} {
		for range 3000 {
			a, b := c(d.n(most), d.n(most)), c(d.n(most), d.n(most))
			checkPair(t, a, b, worth(a).Cmp(worth(b)))
		}
	}
}

// A2: costs stand in one order, and what is added to both changes nothing of it.
func TestOrder(t *testing.T) {
	d := die(2)
	for range 5000 {
		x, y, z := c(d.n(30), d.n(30)), c(d.n(30), d.n(30)), c(d.n(30), d.n(30))
		if Compare(x, y) <= 0 && Compare(y, z) <= 0 && Compare(x, z) > 0 {
			t.Errorf("%v, %v, %v stand in a ring", x, y, z)
		}
		if (Compare(x, y) == 0) != (x == y) {
			t.Errorf("Compare(%v, %v) = %d", x, y, Compare(x, y))
		}
		if Compare(Add(x, z), Add(y, z)) != Compare(x, y) {
			t.Errorf("%v added to %v and %v changes their order", z, x, y)
		}
	}
}

// A1, A2: both together, up to what two of the greatest are.
func TestAdd(t *testing.T) {
	const far = api.Far
	cases := []struct{ a, b, want api.Cost }{
		{c(0, 0), c(0, 0), c(0, 0)},
		{c(1, 2), c(30, 40), c(31, 42)},
		{c(7, 0), c(0, 5), c(7, 5)},
		{c(far, far), c(far, far), c(2*far, 2*far)},
		{c(2*far, 0), c(2*far, 2*far), c(4*far, 2*far)},
	}
	for _, k := range cases {
		if got := Add(k.a, k.b); got != k.want {
			t.Errorf("Add(%v, %v) = %v, want %v", k.a, k.b, got, k.want)
		}
		if got := Add(k.b, k.a); got != k.want {
			t.Errorf("Add(%v, %v) = %v, want %v", k.b, k.a, got, k.want)
		}
	}
}

// A3: with and without a lesser distance, either way, and out to Far.
func TestOctile(t *testing.T) {
	const far = api.Far
	cases := []struct {
		x, y, tx, ty int
		want         api.Cost
	}{
		{0, 0, 0, 0, c(0, 0)},
		{5, 6, 5, 6, c(0, 0)},
		{0, 0, 4, 0, c(4, 0)},
		{0, 0, 0, 4, c(4, 0)},
		{0, 0, 4, 4, c(0, 4)},
		{0, 0, 4, 3, c(1, 3)},
		{0, 0, 3, 4, c(1, 3)},
		{2, 9, 7, 1, c(3, 5)},
		{-3, 2, 4, -5, c(0, 7)},
		{-1, -1, -9, 1, c(6, 2)},
		{far, far, far, far, c(0, 0)},
		{-far, -far, far, far, c(0, 2*far)},
		{-far, 0, far, 0, c(2*far, 0)},
		{0, far, 0, -far, c(2*far, 0)},
		{-far, far, far, far - 1, c(2*far-1, 1)},
	}
	for _, k := range cases {
		if got := Octile(k.x, k.y, k.tx, k.ty); got != k.want {
			t.Errorf("Octile(%d, %d, %d, %d) = %v, want %v", k.x, k.y, k.tx, k.ty, got, k.want)
		}
		if got := Octile(k.tx, k.ty, k.x, k.y); got != k.want {
			t.Errorf("Octile(%d, %d, %d, %d) = %v, want %v", k.tx, k.ty, k.x, k.y, got, k.want)
		}
		if got := Octile(-k.y, k.x, -k.ty, k.tx); got != k.want {
			t.Errorf("turned, Octile(%d, %d, %d, %d) = %v, want %v", -k.y, k.x, -k.ty, k.tx, got, k.want)
		}
	}
}

// A3: on a plane without walls nothing is nearer: stepped over one by one from the middle.
func TestOctileIsLeast(t *testing.T) {
	const reach = 6
	for y := -reach; y <= reach; y++ {
		for x := -reach; x <= reach; x++ {
			if x == 0 && y == 0 {
				continue
			}
			whole := Octile(0, 0, x, y)
			best := c(api.Far, api.Far)
			for dy := -1; dy <= 1; dy++ {
				for dx := -1; dx <= 1; dx++ {
					diagonal := dx * dx * dy * dy
					step := c(dx*dx+dy*dy-2*diagonal, diagonal)
					if via := Add(step, Octile(dx, dy, x, y)); step != c(0, 0) && Less(via, best) {
						best = via
					}
				}
			}
			if best != whole {
				t.Errorf("to %d, %d: %v, by one step more: %v", x, y, whole, best)
			}
		}
	}
}

// Z1: nothing is told of such costs and places, but no call may fall over them.
func TestNothingPanics(t *testing.T) {
	l := []int{math.MinInt, math.MinInt + 1, -api.Far, -1, 0, 1, api.Far + 1, math.MaxInt - 1, math.MaxInt}
	for _, a := range l {
		for _, b := range l {
			for _, x := range l {
				Compare(c(a, b), c(x, a))
				Less(c(a, b), c(b, x))
				Add(c(a, b), c(x, x))
				Octile(a, b, x, a)
			}
		}
	}
}
