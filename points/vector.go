package points

import (
	"math/bits"

	"loftblock/api"
)

// vector is a vector by its coordinates along the three axes.
type vector [3]int

// pairs are the other two axes for each axis, going round; and, by indices of the corners, the sides of a triangle.
var pairs = [3][2]int{{1, 2}, {2, 0}, {0, 1}}

// difference returns the vector from a to b.
func difference(a, b api.Point) vector {
	return vector{b.X - a.X, b.Y - a.Y, b.Z - a.Z}
}

// cross returns a vector that is perpendicular to both, and zero only if they have the same line, or one of them is zero.
func cross(a, b vector) vector {
	var c vector
	for axis, other := range pairs {
		c[axis] = a[other[0]]*b[other[1]] - a[other[1]]*b[other[0]]
	}
	return c
}

// normalOf returns a vector that is perpendicular to a plane through the first point of a list and two others, or zero if one line has all points.
func normalOf(l []api.Point) vector {
	for i, a := range l {
		for _, b := range l[:i] {
			if normal := cross(difference(l[0], a), difference(l[0], b)); normal != (vector{}) {
				return normal
			}
		}
	}
	return vector{}
}

// arePerpendicular reports whether the products of the coordinates of a normal and a vector have the sum 0. This sum is a determinant that may have 67 bits: so the products of each sign are added in two words, and compared.
func arePerpendicular(normal, v vector) bool {
	var plus, minus wide
	for axis, n := range normal {
		if (n < 0) == (v[axis] < 0) {
			plus = plus.withProduct(n, v[axis])
		} else {
			minus = minus.withProduct(n, v[axis])
		}
	}
	return plus == minus
}

// wide is a number in two words.
type wide struct{ high, low uint64 }

// withProduct returns w and the product of the absolute values of two numbers, added.
func (w wide) withProduct(a, b int) wide {
	high, low := bits.Mul64(size(a), size(b))
	low, carry := bits.Add64(w.low, low, 0)
	high, _ = bits.Add64(w.high, high, carry)
	return wide{high, low}
}

// size returns the absolute value of a number.
func size(n int) uint64 {
	return uint64(max(n, -n))
}
