package linear

import (
	"math/big"
	"slices"

	"loftblock/api"
)

// hard has the greatest determinant of all matrices of this size.
var hard = api.Matrix{
	{32, 32, -32, 32, -32, -32}, {32, -32, 32, 32, -32, 32}, {-32, -32, -32, 32, 32, 32},
	{-32, 32, -32, -32, -32, 32}, {32, -32, -32, -32, -32, -32}, {-32, -32, 32, 32, -32, -32},
}

// numbers returns a function that returns one pseudo-random number after the other, always the same ones, from low to high.
func numbers() func(low, high int) int {
	state := uint64(1)
	return func(low, high int) int {
		state = state*6364136223846793005 + 1442695040888963407
		return low + int(state>>33)%(high-low+1)
	}
}

// small returns all matrices of a size with numbers from -1 to 1.
func small(rows, columns int) []api.Matrix {
	list := []api.Matrix{filled(rows, columns, 0)}
	for i := range rows {
		for j := range columns {
			for _, m := range slices.Clone(list) {
				list = append(list, with(m, i, j, 1), with(m, i, j, -1))
			}
		}
	}
	return list
}

// mixed returns matrices of all sizes, with numbers from low to high.
func mixed(next func(low, high int) int, low, high int) []api.Matrix {
	var list []api.Matrix
	for rows := 1; rows <= 6; rows++ {
		for columns := 1; columns <= 12; columns++ {
			m := filled(rows, columns, 0)
			for _, row := range m {
				for j := range row {
					row[j] = next(low, high)
				}
			}
			list = append(list, m)
		}
	}
	return list
}

// dependent returns a copy of m in which some rows and columns are multiples, or sums, of others.
func dependent(next func(low, high int) int, m api.Matrix) api.Matrix {
	m = copied(m)
	for range next(1, 3) {
		to, a, b, sign := next(0, len(m)-1), next(0, len(m)-1), next(0, len(m)-1), next(-1, 1)
		for j := range m[0] {
			m[to][j] = m[a][j] + sign*m[b][j]
		}
	}
	to, from, factor := next(0, len(m[0])-1), next(0, len(m[0])-1), next(-2, 2)
	for _, row := range m {
		row[to] = factor * row[from]
	}
	return m
}

// signed returns square matrices with numbers that are as large as the limit, so that determinants are large.
func signed(next func(low, high int) int, least int) []api.Matrix {
	var list []api.Matrix
	for n := 1; n <= 6; n++ {
		for range 30 {
			m := filled(n, n, 0)
			for _, row := range m {
				for j := range row {
					row[j] = next(least, 32) * (2*next(0, 1) - 1)
				}
			}
			list = append(list, m)
		}
	}
	return list
}

// matrices returns valid matrices of all sizes, with small and large numbers, of all ranks.
func matrices() []api.Matrix {
	next := numbers()
	list := []api.Matrix{hard, with(hard, 5, 5, 31), filled(6, 12, 32), filled(6, 12, 0)}
	for _, size := range [][2]int{{1, 1}, {1, 2}, {2, 1}, {2, 2}, {1, 3}, {3, 1}, {2, 3}, {3, 2}} {
		list = append(list, small(size[0], size[1])...)
	}
	for range 4 {
		list = append(list, mixed(next, -32, 32)...)
		list = append(list, mixed(next, -1, 1)...)
		list = append(list, mixed(next, 0, 1)...)
		for _, m := range mixed(next, -2, 2) {
			list = append(list, dependent(next, m))
		}
	}
	list = append(list, signed(next, 32)...)
	return append(list, signed(next, 29)...)
}

// few returns some of the matrices.
func few(step int) []api.Matrix {
	var list []api.Matrix
	for i, m := range matrices() {
		if i%step == 0 {
			list = append(list, m)
		}
	}
	return list
}

// rights returns right-hand sides for a matrix: large ones, small ones, zeros, and some for which there is a solution.
func rights(m api.Matrix) [][]int {
	next := numbers()
	sides := make([][]int, 5)
	for _, row := range m {
		sum, reached := 0, 0
		for j, n := range row {
			sum += n * (j*j - 3)
			reached += n * (1<<16 - 7*j)
		}
		for i, n := range []int{0, (2*next(0, 1) - 1) << 26, next(-3, 3), sum, reached} {
			sides[i] = append(sides[i], n)
		}
	}
	return sides
}

// factors returns lists of fractions of one length, with small and large numbers.
func factors(length int) [][]api.Frac {
	next := numbers()
	lists := make([][]api.Frac, 4)
	for range length {
		lists[0] = append(lists[0], f(next(-9, 9), 1))
		lists[1] = append(lists[1], fraction(next(-9, 9), next(1, 12)))
		lists[2] = append(lists[2], fraction(top/32/12-next(0, 99), next(1, 5)))
		lists[3] = append(lists[3], fraction(next(-1000, 1000), next(1<<30-1000, 1<<30)))
	}
	return lists
}

func fraction(num, den int) api.Frac {
	r := big.NewRat(int64(num), int64(den))
	return f(int(r.Num().Int64()), int(r.Denom().Int64()))
}

func value(a api.Frac) *big.Rat { return big.NewRat(int64(a.Num), int64(a.Den)) }

func fits(r *big.Rat) bool {
	return r.Num().CmpAbs(big.NewInt(top)) <= 0 && r.Denom().Cmp(big.NewInt(top)) <= 0
}

func exact(m api.Matrix) [][]*big.Rat {
	rows := make([][]*big.Rat, len(m))
	for i, row := range m {
		for _, n := range row {
			rows[i] = append(rows[i], big.NewRat(int64(n), 1))
		}
	}
	return rows
}

// reduce makes the first number of each row 1, and all others in its column 0, and returns how many rows are not zero then. These come first.
func reduce(rows [][]*big.Rat) int {
	done := 0
	for j := 0; len(rows) > 0 && j < len(rows[0]); j++ {
		at := slices.IndexFunc(rows[done:], func(row []*big.Rat) bool { return row[j].Sign() != 0 })
		if at < 0 {
			continue
		}
		rows[done], rows[done+at] = rows[done+at], rows[done]
		first := rows[done][j]
		for k, r := range rows[done] {
			rows[done][k] = new(big.Rat).Quo(r, first)
		}
		for i, row := range rows {
			if factor := row[j]; i != done && factor.Sign() != 0 {
				for k, r := range rows[done] {
					row[k] = new(big.Rat).Sub(row[k], new(big.Rat).Mul(factor, r))
				}
			}
		}
		done++
	}
	return done
}

// rankOf returns the rank of a matrix, which is lost.
func rankOf(rows [][]*big.Rat) int { return reduce(rows) }

// detOf returns a determinant by its first row.
func detOf(m api.Matrix) int64 {
	if len(m) == 0 {
		return 1
	}
	sum := int64(0)
	for j, n := range m[0] {
		var rest api.Matrix
		for _, row := range m[1:] {
			rest = append(rest, slices.Delete(slices.Clone(row), j, j+1))
		}
		if part := int64(n) * detOf(rest); j%2 == 0 {
			sum += part
		} else {
			sum -= part
		}
	}
	return sum
}

// freeColumns returns the columns that do not make the rank greater than that of the columns before them.
func freeColumns(m api.Matrix) []int {
	var free []int
	for j := range m[0] {
		var before, until api.Matrix
		for _, row := range m {
			before = append(before, row[:j])
			until = append(until, row[:j+1])
		}
		if rankOf(exact(before)) == rankOf(exact(until)) {
			free = append(free, j)
		}
	}
	return free
}

// isNull reports whether the sums of the rows times x are zero.
func isNull(m api.Matrix, x []api.Frac) bool {
	for _, row := range exact(m) {
		sum := new(big.Rat)
		for j, r := range row {
			sum.Add(sum, r.Mul(r, value(x[j])))
		}
		if sum.Sign() != 0 {
			return false
		}
	}
	return true
}
