package points

import (
	"math"
	"math/big"
	"slices"

	"loftblock/api"
)

const top = api.MaxLength

// at returns a point as it stands, valid or not.
func at(x, y, z int) api.Point { return api.Point{X: x, Y: y, Z: z} }

// numbers returns a function that returns one pseudo-random number after the other, always the same ones, from low to high.
func numbers() func(low, high int) int {
	state := uint64(1)
	return func(low, high int) int {
		state = state*6364136223846793005 + 1442695040888963407
		return low + int(state>>11%uint64(high-low+1))
	}
}

// mixed returns a list of pseudo-random points with coordinates from -most to most.
func mixed(next func(low, high int) int, length, most int) []api.Point {
	l := make([]api.Point, length)
	for i := range l {
		l[i] = at(next(-most, most), next(-most, most), next(-most, most))
	}
	return l
}

// corners returns the corners of a cube.
func corners(low, high int) []api.Point {
	var l []api.Point
	for i := range 8 {
		side := func(bit int) int { return low + i>>bit&1*(high-low) }
		l = append(l, at(side(0), side(1), side(2)))
	}
	return l
}

// some returns points near each other, and up to the limits.
func some() []api.Point {
	l := []api.Point{at(3, 4, 12), at(5, -1, 9), at(-7, 0, 2), at(top-1, 1-top, top/2), at(-top, 0, top), at(333, -777, 1001)}
	l = slices.Concat(l, corners(-1, 1), corners(0, 2)[:3], corners(-top, top))
	next := numbers()
	for _, most := range []int{1, 30, 5000, top} {
		l = append(l, mixed(next, 3, most)...)
	}
	return l
}

// strangers returns points that are not valid.
func strangers() []api.Point {
	var l []api.Point
	for _, n := range []int{top + 1, -top - 1, 1 << 32, -1 << 32, math.MaxInt, math.MinInt} {
		l = append(l, at(n, 0, 0), at(0, n, 0), at(0, 0, n), at(n, n, n))
	}
	return l
}

// grid returns the points of a square seen from above, with other heights each.
func grid(low, high int) []api.Point {
	var l []api.Point
	for x := low; x <= high; x++ {
		for y := low; y <= high; y++ {
			l = append(l, at(x, y, 7*x-5*y))
		}
	}
	return l
}

// plane returns points of a plane, or of a line, through a pseudo-random point.
func plane(next func(low, high int) int, length, most, axes int) []api.Point {
	start, sides := mixed(next, 1, most/4)[0], mixed(next, axes, most/64)
	l := make([]api.Point, length)
	for i := range l {
		l[i] = start
		for _, side := range sides {
			n := next(-16, 16)
			l[i] = at(l[i].X+n*side.X, l[i].Y+n*side.Y, l[i].Z+n*side.Z)
		}
	}
	return l
}

// lists returns lists of points, flat and not flat, that fit in half the limits.
func lists() [][]api.Point {
	all := [][]api.Point{nil, {}, grid(0, 1), grid(-1, 1), corners(0, 1), corners(-top/2, top/2), make([]api.Point, 20)}
	next := numbers()
	for length := 1; length <= 20; length++ {
		for _, most := range []int{1, 2, 100, top / 2} {
			all = append(all, mixed(next, length, most))
		}
		for axes := 1; axes <= 3; axes++ {
			all = append(all, plane(next, length, top/2, axes), plane(next, length, 128, axes))
		}
	}
	return all
}

// minus returns a - b.
func minus(a, b int) *big.Int { return big.NewInt(int64(a - b)) }

// area returns (bx - ax)(cy - ay) - (by - ay)(cx - ax).
func area(a, b, c api.Point) *big.Int {
	left := new(big.Int).Mul(minus(b.X, a.X), minus(c.Y, a.Y))
	return left.Sub(left, new(big.Int).Mul(minus(b.Y, a.Y), minus(c.X, a.X)))
}

// volume returns the determinant of the differences of three points from a.
func volume(a, b, c, d api.Point) *big.Int {
	sum := new(big.Int)
	for _, turned := range [][3]api.Point{{b, c, d}, {c, d, b}, {d, b, c}} {
		sum.Add(sum, new(big.Int).Mul(area(a, turned[0], turned[1]), minus(turned[2].Z, a.Z)))
	}
	return sum
}

// isFlat reports whether the points of a list are flat: then all determinants are zero.
func isFlat(l []api.Point) bool {
	for i := range l {
		for j := range i {
			for k := range j {
				if volume(l[0], l[i], l[j], l[k]).Sign() != 0 {
					return false
				}
			}
		}
	}
	return true
}

// isInside reports whether a point is covered by a list: it is not if there is a direction to one point of the list such that all others are in the same direction, or to the left by less than a half turn.
func isInside(p api.Point, l []api.Point) bool {
	return len(l) > 0 && !slices.ContainsFunc(l, func(first api.Point) bool {
		return !slices.ContainsFunc(l, func(q api.Point) bool {
			side := area(p, first, q).Sign()
			ahead := (first.X-p.X)*(q.X-p.X) + (first.Y-p.Y)*(q.Y-p.Y)
			return side < 0 || side == 0 && ahead <= 0
		})
	})
}

// moved returns a list of points that are all moved by the same amount.
func moved(l []api.Point, by api.Point) []api.Point {
	var all []api.Point
	for _, p := range l {
		all = append(all, at(p.X+by.X, p.Y+by.Y, p.Z+by.Z))
	}
	return all
}
