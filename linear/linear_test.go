package linear

import (
	"math"
	"math/big"
	"reflect"
	"slices"
	"testing"

	"loftblock/api"
)

const top = 1 << 60

func f(num, den int) api.Frac { return api.Frac{Num: num, Den: den} }

// whole returns the fractions of some integers.
func whole(numbers ...int) []api.Frac {
	var list []api.Frac
	for _, n := range numbers {
		list = append(list, f(n, 1))
	}
	return list
}

// same compares lists, of which nil is equal to an empty one.
func same[T comparable](a, b []T) bool { return slices.Equal(a, b) }

// filled returns a matrix of some size with one number everywhere.
func filled(rows, columns, n int) api.Matrix {
	m := make(api.Matrix, rows)
	for i := range m {
		m[i] = slices.Repeat([]int{n}, columns)
	}
	return m
}

// with returns a copy of m with another number at one place.
func with(m api.Matrix, row, column, n int) api.Matrix {
	m = copied(m)
	m[row][column] = n
	return m
}

func copied(m api.Matrix) api.Matrix {
	var c api.Matrix
	for _, row := range m {
		c = append(c, slices.Clone(row))
	}
	return c
}

// strangers are no matrices: because of their size, rows of several lengths, or a number.
var strangers = []api.Matrix{
	nil, {}, {nil}, {{}}, {{}, {}}, {{}, {1}}, {{1}, {}}, {{1}, nil}, {nil, {1}}, {{1, 2}, {1}}, {{1}, {1, 2}}, {{1, 2}, {3, 4}, {5, 6, 7}}, {{1, 2}, {3, 4}, {5}},
	make(api.Matrix, 6), make(api.Matrix, 7), filled(7, 1, 0), filled(7, 7, 1), filled(1000, 2, 1), filled(1, 13, 0), filled(6, 13, 1), filled(2, 1000, 1),
	{{33}}, {{-33}}, {{0, 33}}, {{0}, {-33}}, {{math.MaxInt}}, {{math.MinInt}}, {{math.MinInt + 1}}, {{1 << 32}}, {{1, 2}, {3, math.MinInt}},
	with(filled(6, 12, 32), 5, 11, 33), with(filled(6, 12, -32), 0, 0, -33), with(filled(6, 12, -32), 5, 11, -33), append(filled(5, 12, 1), make([]int, 11)), append(filled(5, 11, 1), make([]int, 12)),
}

func TestP4_1Valid(t *testing.T) {
	for rows := range 9 {
		for columns := range 15 {
			want := rows >= 1 && rows <= 6 && columns >= 1 && columns <= 12
			for _, n := range []int{0, 1, 32, -32} {
				if Valid(filled(rows, columns, n)) != want {
					t.Errorf("Valid of %d rows and %d columns of %d is not %t", rows, columns, n, want)
				}
			}
		}
	}
	for n := -100; n <= 100; n++ {
		for _, m := range []api.Matrix{{{n}}, {{1, n}}, {{1, 2}, {n, 3}}, with(filled(6, 12, 7), 5, 11, n)} {
			if Valid(m) != (n >= -32 && n <= 32) {
				t.Errorf("Valid(%v) is %t", m, Valid(m))
			}
		}
	}
	for _, m := range strangers {
		if Valid(m) {
			t.Errorf("Valid(%v) is true", m)
		}
	}
}

func TestP4_1RankAndIndependent(t *testing.T) {
	for _, c := range []struct {
		m    api.Matrix
		rows []int
	}{
		{api.Matrix{{0}}, nil}, {api.Matrix{{-5}}, []int{0}}, {api.Matrix{{0}, {7}}, []int{1}}, {api.Matrix{{7}, {0}, {3}}, []int{0}},
		{api.Matrix{{0, 0}, {0, 0}}, nil}, {api.Matrix{{0, 0}, {0, 4}}, []int{1}}, {api.Matrix{{0, 1}, {1, 0}}, []int{0, 1}},
		{api.Matrix{{1, 2}, {2, 4}, {0, 1}}, []int{0, 2}}, {api.Matrix{{1, 2}, {3, 4}, {5, 6}}, []int{0, 1}}, {api.Matrix{{3, 6}, {-2, -4}, {1, 2}}, []int{0}},
		{api.Matrix{{1, 0, 1}, {0, 1, 1}, {1, 1, 2}, {0, 0, 1}}, []int{0, 1, 3}}, {api.Matrix{{0, 0, 5}, {0, 3, 1}}, []int{0, 1}},
		{api.Matrix{{1, 1, 0}, {1, 1, 0}, {0, 0, 0}, {0, 0, 2}, {2, 2, 2}, {1, 0, 0}}, []int{0, 3, 5}},
		{filled(6, 12, 0), nil}, {filled(6, 12, 32), []int{0}}, {with(filled(6, 12, -32), 4, 11, 31), []int{0, 4}}, {hard, []int{0, 1, 2, 3, 4, 5}},
	} {
		if rank, e := Rank(c.m); rank != len(c.rows) || e != api.OK {
			t.Errorf("Rank(%v) = %d, %d; want %d", c.m, rank, e, len(c.rows))
		}
		if rows, e := Independent(c.m); !same(rows, c.rows) || e != api.OK {
			t.Errorf("Independent(%v) = %v, %d; want %v", c.m, rows, e, c.rows)
		}
	}
}

func TestP4_1OfAll(t *testing.T) {
	for _, m := range matrices() {
		if rank, e := Rank(m); rank != rankOf(exact(m)) || e != api.OK {
			t.Errorf("Rank(%v) = %d, %d; want %d", m, rank, e, rankOf(exact(m)))
		}
		var want []int
		for i := range m {
			if rankOf(exact(m[:i+1])) > rankOf(exact(m[:i])) {
				want = append(want, i)
			}
		}
		if rows, e := Independent(m); !same(rows, want) || e != api.OK {
			t.Errorf("Independent(%v) = %v, %d; want %v", m, rows, e, want)
		}
	}
}

func TestP4_1Errors(t *testing.T) {
	for _, m := range strangers {
		if rank, e := Rank(m); rank != 0 || e != api.ErrArg {
			t.Errorf("Rank(%v) = %d, %d; want ErrArg", m, rank, e)
		}
		if rows, e := Independent(m); len(rows) > 0 || e != api.ErrArg {
			t.Errorf("Independent(%v) = %v, %d; want ErrArg", m, rows, e)
		}
	}
}

func TestP4_2Det(t *testing.T) {
	for _, c := range []struct {
		m    api.Matrix
		want int
	}{
		{api.Matrix{{0}}, 0}, {api.Matrix{{1}}, 1}, {api.Matrix{{-7}}, -7}, {api.Matrix{{2, 1}, {1, -1}}, -3},
		{api.Matrix{{1, 2}, {3, 4}}, -2}, {api.Matrix{{3, 4}, {1, 2}}, 2}, {api.Matrix{{0, 1}, {1, 0}}, -1}, {api.Matrix{{0, 0}, {1, 5}}, 0}, {api.Matrix{{32, 32}, {-32, 32}}, 2048},
		{api.Matrix{{0, 2, 0}, {3, 0, 0}, {0, 0, 5}}, -30}, {api.Matrix{{0, 2, 0}, {0, 0, 3}, {5, 0, 0}}, 30}, {api.Matrix{{2, 0, 1}, {1, 3, 2}, {1, 1, 1}}, 0}, {api.Matrix{{2, 0, 1}, {1, 3, 2}, {1, 1, 4}}, 18},
		{api.Matrix{{0, 0, 0, 1}, {0, 0, 1, 0}, {0, 1, 0, 0}, {1, 0, 0, 0}}, 1}, {filled(6, 6, 32), 0}, {filled(6, 6, 0), 0},
		// No determinant of numbers from -32 to 32 with this size is greater.
		{hard, 160 << 30}, {with(hard, 0, 0, -32), 128 << 30},
	} {
		if d, e := Det(c.m); d != c.want || e != api.OK {
			t.Errorf("Det(%v) = %d, %d; want %d", c.m, d, e, c.want)
		}
	}
}

func TestP4_2OfAll(t *testing.T) {
	compared := 0
	for _, m := range matrices() {
		if len(m) != len(m[0]) {
			continue
		}
		compared++
		if d, e := Det(m); int64(d) != detOf(m) || e != api.OK {
			t.Errorf("Det(%v) = %d, %d; want %d", m, d, e, detOf(m))
		}
	}
	if compared == 0 {
		t.Error("no matrix is square")
	}
}

func TestP4_2Errors(t *testing.T) {
	for rows := 1; rows <= 6; rows++ {
		for columns := 1; columns <= 12; columns++ {
			for _, n := range []int{0, 1} {
				if d, e := Det(filled(rows, columns, n)); rows != columns && (d != 0 || e != api.ErrShape) {
					t.Errorf("Det of %d rows and %d columns is %d, %d; want ErrShape", rows, columns, d, e)
				}
			}
		}
	}
	for _, m := range strangers {
		if d, e := Det(m); d != 0 || e != api.ErrArg {
			t.Errorf("Det(%v) = %d, %d; want ErrArg", m, d, e)
		}
	}
}

func TestP4_3Solve(t *testing.T) {
	for _, c := range []struct {
		m     api.Matrix
		right []int
		want  []api.Frac
	}{
		{api.Matrix{{2, 1}, {1, -1}}, []int{5, 1}, whole(2, 1)}, {api.Matrix{{0, 3}, {2, 0}}, []int{1, 1}, []api.Frac{f(1, 2), f(1, 3)}},
		{api.Matrix{{1}, {2}, {3}}, []int{2, 4, 6}, whole(2)}, {api.Matrix{{0}, {-4}}, []int{0, 6}, []api.Frac{f(-3, 2)}}, {api.Matrix{{5}}, []int{0}, whole(0)},
		{api.Matrix{{1}}, []int{1 << 26}, whole(1 << 26)}, {api.Matrix{{1}}, []int{-1 << 26}, whole(-1 << 26)}, {api.Matrix{{-3}}, []int{1 << 26}, []api.Frac{f(-1<<26, 3)}},
		{api.Matrix{{1, 1}, {1, 1}, {0, 0}, {1, -1}}, []int{3, 3, 0, 1}, whole(2, 1)}, {api.Matrix{{0, 0, 1}, {1, 0, 0}, {0, 1, 0}}, []int{7, 8, 9}, whole(8, 9, 7)},
	} {
		if x, e := Solve(c.m, c.right); !same(x, c.want) || e != api.OK {
			t.Errorf("Solve(%v, %v) = %v, %d; want %v", c.m, c.right, x, e, c.want)
		}
	}
}

func TestP4_3OfAll(t *testing.T) {
	seen := map[api.Errno]int{}
	for _, m := range matrices() {
		for _, right := range rights(m) {
			want, wantErr := solved(m, right)
			seen[wantErr]++
			if x, e := Solve(m, right); !same(x, want) || e != wantErr {
				t.Errorf("Solve(%v, %v) = %v, %d; want %v, %d", m, right, x, e, want, wantErr)
			}
		}
	}
	for _, e := range []api.Errno{api.OK, api.ErrGap, api.ErrFree} {
		if seen[e] == 0 {
			t.Errorf("no equations have %d", e)
		}
	}
}

func TestP4_3Errors(t *testing.T) {
	for _, c := range []struct {
		m     api.Matrix
		right []int
		want  api.Errno
	}{
		{api.Matrix{{1}}, nil, api.ErrSize}, {api.Matrix{{1}}, []int{}, api.ErrSize}, {api.Matrix{{1}}, []int{1, 2}, api.ErrSize}, {api.Matrix{{1, 1}}, []int{2, 3}, api.ErrSize}, {api.Matrix{{1}, {2}}, []int{1}, api.ErrSize},
		// The first of several errors counts.
		{api.Matrix{{1}}, []int{1<<26 + 1, 0}, api.ErrSize}, {api.Matrix{{0}, {0}}, []int{math.MinInt}, api.ErrSize}, {api.Matrix{{1}, {1}}, []int{0, 1, 2}, api.ErrSize},
		{api.Matrix{{1}}, []int{1<<26 + 1}, api.ErrRange}, {api.Matrix{{1}}, []int{-1<<26 - 1}, api.ErrRange}, {api.Matrix{{1}, {2}}, []int{1, math.MinInt}, api.ErrRange}, {api.Matrix{{1}, {2}}, []int{math.MaxInt, 1}, api.ErrRange}, {api.Matrix{{1}}, []int{1 << 32}, api.ErrRange},
		{api.Matrix{{0}}, []int{1<<26 + 1}, api.ErrRange}, {api.Matrix{{1, 1}}, []int{1<<26 + 1}, api.ErrRange},
		{api.Matrix{{0}}, []int{1}, api.ErrGap}, {api.Matrix{{0}}, []int{1 << 26}, api.ErrGap}, {api.Matrix{{1}, {2}}, []int{2, 5}, api.ErrGap}, {api.Matrix{{1, 1}, {1, 2}, {2, 3}}, []int{1, 1, 1}, api.ErrGap},
		{api.Matrix{{1, 1}, {2, 2}}, []int{2, 5}, api.ErrGap}, {api.Matrix{{1, 2, 3}, {0, 0, 0}}, []int{1, 1}, api.ErrGap}, {filled(6, 12, 32), []int{0, 0, 0, 0, 0, 1}, api.ErrGap},
		{api.Matrix{{0}}, []int{0}, api.ErrFree}, {api.Matrix{{1, 1}}, []int{2}, api.ErrFree}, {api.Matrix{{1, 1}, {2, 2}}, []int{2, 4}, api.ErrFree}, {api.Matrix{{0, 1}}, []int{3}, api.ErrFree}, {api.Matrix{{1, 0}}, []int{3}, api.ErrFree}, {filled(6, 12, 32), make([]int, 6), api.ErrFree},
	} {
		if x, e := Solve(c.m, c.right); len(x) > 0 || e != c.want {
			t.Errorf("Solve(%v, %v) = %v, %d; want %d", c.m, c.right, x, e, c.want)
		}
	}
	for _, m := range strangers {
		for _, right := range [][]int{nil, make([]int, len(m)), {math.MaxInt}} {
			if x, e := Solve(m, right); len(x) > 0 || e != api.ErrArg {
				t.Errorf("Solve(%v, %v) = %v, %d; want ErrArg", m, right, x, e)
			}
		}
	}
}

func TestP4_4Null(t *testing.T) {
	for _, c := range []struct {
		m    api.Matrix
		want [][]api.Frac
	}{
		{api.Matrix{{1, 2, 3}}, [][]api.Frac{whole(-2, 1, 0), whole(-3, 0, 1)}}, {api.Matrix{{0, 2, 1}}, [][]api.Frac{whole(1, 0, 0), {f(0, 1), f(-1, 2), f(1, 1)}}},
		{api.Matrix{{1, 1, 0}, {0, 1, 2}}, [][]api.Frac{whole(2, -2, 1)}}, {api.Matrix{{1, 0}, {0, 1}}, nil}, {api.Matrix{{3}}, nil}, {api.Matrix{{0}, {2}}, nil}, {hard, nil},
		{api.Matrix{{0}}, [][]api.Frac{whole(1)}}, {filled(3, 2, 0), [][]api.Frac{whole(1, 0), whole(0, 1)}}, {api.Matrix{{2, 4, 1, 3}, {0, 0, -2, 5}}, [][]api.Frac{whole(-2, 1, 0, 0), {f(-11, 4), f(0, 1), f(5, 2), f(1, 1)}}},
		{api.Matrix{{-32, 31}}, [][]api.Frac{{f(31, 32), f(1, 1)}}},
	} {
		if x, e := Null(c.m); !slices.EqualFunc(x, c.want, same[api.Frac]) || e != api.OK {
			t.Errorf("Null(%v) = %v, %d; want %v", c.m, x, e, c.want)
		}
	}
}

func TestP4_4OfAll(t *testing.T) {
	for _, m := range matrices() {
		free := freeColumns(m)
		vectors, e := Null(m)
		if e != api.OK || len(vectors) != len(free) {
			t.Errorf("Null(%v) = %v, %d; the free columns are %v", m, vectors, e, free)
			continue
		}
		for i, x := range vectors {
			if !isNull(m, x) {
				t.Errorf("Null(%v) = %v: the sum for %d is not zero", m, vectors, i)
			}
			for j, k := range free {
				if want := f(0, 1); j != i && x[k] != want || j == i && x[k] != f(1, 1) {
					t.Errorf("Null(%v) = %v: %v at the free column %d of %v", m, vectors, x[k], k, free)
				}
			}
		}
	}
}

func TestP4_4Errors(t *testing.T) {
	for _, m := range strangers {
		if x, e := Null(m); len(x) > 0 || e != api.ErrArg {
			t.Errorf("Null(%v) = %v, %d; want ErrArg", m, x, e)
		}
	}
}

func TestP4_5Product(t *testing.T) {
	for _, c := range []struct {
		m    api.Matrix
		x    []api.Frac
		want []api.Frac
	}{
		{api.Matrix{{1, 2}, {0, -3}}, []api.Frac{f(1, 2), f(1, 3)}, []api.Frac{f(7, 6), f(-1, 1)}}, {api.Matrix{{0}}, whole(5), whole(0)}, {api.Matrix{{4}, {-2}}, []api.Frac{f(1, 8)}, []api.Frac{f(1, 2), f(-1, 4)}},
		{api.Matrix{{2, -4, 7}}, []api.Frac{f(1, 1), f(1, 2), f(0, 1)}, whole(0)},
		// The limits are reached, in one order of the sums.
		{api.Matrix{{1}, {-1}, {0}}, whole(top), whole(top, -top, 0)}, {api.Matrix{{1, -1, 1}}, whole(top, top, top), whole(top)}, {api.Matrix{{1, -1, 1}}, []api.Frac{f(1, top), f(1, top), f(1, top-1)}, []api.Frac{f(1, top-1)}},
		{api.Matrix{{32}, {-32}}, []api.Frac{f(top/32, 1)}, whole(top, -top)}, {api.Matrix{{32}}, []api.Frac{f(top-1, top)}, []api.Frac{f(top-1, top/32)}}, {api.Matrix{{1, 1}}, whole(top-5, 5), whole(top)}, {api.Matrix{{0, 1}}, []api.Frac{f(1, top), f(1, top-1)}, []api.Frac{f(1, top-1)}},
	} {
		if y, e := Product(c.m, c.x); !same(y, c.want) || e != api.OK {
			t.Errorf("Product(%v, %v) = %v, %d; want %v", c.m, c.x, y, e, c.want)
		}
	}
}

func TestP4_5OfAll(t *testing.T) {
	fits, tooBig := 0, 0
	for _, m := range matrices() {
		for _, x := range factors(len(m[0])) {
			want, wantErr := multiplied(m, x)
			if wantErr == api.OK {
				fits++
			} else {
				tooBig++
			}
			if y, e := Product(m, x); !same(y, want) || e != wantErr {
				t.Errorf("Product(%v, %v) = %v, %d; want %v, %d", m, x, y, e, want, wantErr)
			}
		}
	}
	if fits == 0 || tooBig == 0 {
		t.Errorf("%d products fit, %d do not", fits, tooBig)
	}
}

func TestP4_5Errors(t *testing.T) {
	for _, c := range []struct {
		m    api.Matrix
		x    []api.Frac
		want api.Errno
	}{
		{api.Matrix{{2}}, []api.Frac{{}}, api.ErrArg}, {api.Matrix{{0}}, []api.Frac{f(2, 4)}, api.ErrArg}, {api.Matrix{{1, 1}}, []api.Frac{f(1, 1), f(1, -2)}, api.ErrArg}, {api.Matrix{{1}}, whole(top + 1), api.ErrArg}, {api.Matrix{{1}}, []api.Frac{f(1, top+1)}, api.ErrArg}, {api.Matrix{{1}}, []api.Frac{f(math.MinInt, math.MinInt)}, api.ErrArg},
		// The first of several errors counts.
		{api.Matrix{{1, 1}}, []api.Frac{f(0, 2)}, api.ErrArg}, {api.Matrix{{2}}, []api.Frac{f(top, 1), {}}, api.ErrArg}, {api.Matrix{{2, 1}}, []api.Frac{f(top, 1), {}}, api.ErrArg}, {api.Matrix{{1}}, make([]api.Frac, 1000), api.ErrArg},
		{api.Matrix{{1, 2}}, nil, api.ErrSize}, {api.Matrix{{1, 2}}, []api.Frac{}, api.ErrSize}, {api.Matrix{{1, 2}}, whole(1), api.ErrSize}, {api.Matrix{{1, 2}}, whole(1, 2, 3), api.ErrSize}, {api.Matrix{{1}, {2}}, whole(1, 2), api.ErrSize}, {api.Matrix{{2}}, whole(top, top), api.ErrSize}, {api.Matrix{{2, 2}}, whole(top), api.ErrSize},
		{api.Matrix{{2}}, whole(top), api.ErrBig}, {api.Matrix{{2}}, whole(-top), api.ErrBig}, {api.Matrix{{32}}, []api.Frac{f(top-1, 2)}, api.ErrBig}, {api.Matrix{{0}, {1}, {-2}}, whole(top), api.ErrBig}, {api.Matrix{{32}}, whole(top/32 + 1), api.ErrBig},
		// A product, or a sum on the way, does not fit, but the whole sum would.
		{api.Matrix{{2, -1}}, whole(top, top), api.ErrBig}, {api.Matrix{{1, -2}}, whole(top, top), api.ErrBig}, {api.Matrix{{1, 1, -1}}, whole(top, top, top), api.ErrBig}, {api.Matrix{{1, 1, -1}}, []api.Frac{f(1, top), f(1, top-1), f(1, top)}, api.ErrBig}, {api.Matrix{{-1, -1, 1}}, whole(top, 1, 1), api.ErrBig},
	} {
		if y, e := Product(c.m, c.x); len(y) > 0 || e != c.want {
			t.Errorf("Product(%v, %v) = %v, %d; want %d", c.m, c.x, y, e, c.want)
		}
	}
	for _, m := range strangers {
		for _, x := range [][]api.Frac{nil, whole(1), {{}}, whole(make([]int, 13)...)} {
			if y, e := Product(m, x); len(y) > 0 || e != api.ErrArg {
				t.Errorf("Product(%v, %v) = %v, %d; want ErrArg", m, x, y, e)
			}
		}
	}
}

// calls are all functions, each with what it returns besides an error.
var calls = []struct {
	name string
	do   func(m api.Matrix, right []int, x []api.Frac) any
}{
	{"Valid", func(m api.Matrix, right []int, x []api.Frac) any { return Valid(m) }},
	{"Rank", func(m api.Matrix, right []int, x []api.Frac) any { n, _ := Rank(m); return n }},
	{"Det", func(m api.Matrix, right []int, x []api.Frac) any { n, _ := Det(m); return n }},
	{"Solve", func(m api.Matrix, right []int, x []api.Frac) any { l, _ := Solve(m, right); return l }},
	{"Null", func(m api.Matrix, right []int, x []api.Frac) any { l, _ := Null(m); return l }},
	{"Product", func(m api.Matrix, right []int, x []api.Frac) any { l, _ := Product(m, x); return l }},
	{"Independent", func(m api.Matrix, right []int, x []api.Frac) any { l, _ := Independent(m); return l }},
}

func TestP4ArgumentsStayAndShareNothing(t *testing.T) {
	for _, m := range append(few(50), api.Matrix{{0, 3}, {2, 0}}, api.Matrix{{0, 0, 4}, {0, 0, 0}}, api.Matrix{{1, 2}, {3, 4}, {5, 6}}) {
		for _, c := range calls {
			given, right, x := copied(m), make([]int, len(m)), whole(make([]int, len(m[0]))...)
			right[0], x[0] = 6, f(1, 2)
			rightBefore, xBefore := slices.Clone(right), slices.Clone(x)
			result := c.do(given, right, x)
			if !reflect.DeepEqual(given, m) || !same(right, rightBefore) || !same(x, xBefore) {
				t.Errorf("%s of %v changed it", c.name, m)
			}
			spoil(given, right, x)
			if again := c.do(m, rightBefore, xBefore); !reflect.DeepEqual(result, again) {
				t.Errorf("%s of %v shares memory with it", c.name, m)
			}
		}
	}
	vectors, _ := Null(api.Matrix{{1, 2, 3}})
	_ = append(vectors[0], f(7, 1))
	spoil(nil, nil, vectors[0])
	if !same(vectors[1], whole(-3, 0, 1)) {
		t.Error("null vectors share memory")
	}
}

// spoil changes all numbers of some lists.
func spoil(m api.Matrix, right []int, x []api.Frac) {
	for _, row := range m {
		for j := range row {
			row[j] += 5
		}
	}
	for i := range right {
		right[i] += 5
	}
	for i := range x {
		x[i].Num += 5
	}
}

// solved returns what Solve must return, by the definition of the chapter, with package math/big.
func solved(m api.Matrix, right []int) ([]api.Frac, api.Errno) {
	columns := len(m[0])
	if rankOf(exact(extended(m, right))) > rankOf(exact(m)) {
		return nil, api.ErrGap
	}
	if rankOf(exact(m)) < columns {
		return nil, api.ErrFree
	}
	rows := exact(extended(m, right))
	reduce(rows)
	x := make([]api.Frac, columns)
	for j := range x {
		x[j] = f(int(rows[j][columns].Num().Int64()), int(rows[j][columns].Denom().Int64()))
	}
	return x, api.OK
}

// multiplied returns what Product must return, by the definition of the chapter, with package math/big.
func multiplied(m api.Matrix, x []api.Frac) ([]api.Frac, api.Errno) {
	var sums []api.Frac
	for _, row := range m {
		sum := new(big.Rat)
		for j, n := range row {
			part := new(big.Rat).Mul(big.NewRat(int64(n), 1), value(x[j]))
			sum = new(big.Rat).Add(sum, part)
			if !fits(part) || !fits(sum) {
				return nil, api.ErrBig
			}
		}
		sums = append(sums, f(int(sum.Num().Int64()), int(sum.Denom().Int64())))
	}
	return sums, api.OK
}
