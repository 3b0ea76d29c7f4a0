package linear

import (
	"slices"
	"testing"

	"loftblock/api"
)

func TestP4_6ProductsWithSolutions(t *testing.T) {
	compared := 0
	for _, m := range matrices() {
		for _, right := range rights(m) {
			x, e := Solve(m, right)
			if e != api.OK {
				continue
			}
			// The numerators of a solution have up to 59 bits, so a sum on the way may be too big.
			y, e := Product(m, x)
			if e == api.ErrBig {
				continue
			}
			compared++
			if !same(y, whole(right...)) || e != api.OK {
				t.Errorf("Product(%v, %v) = %v, %d; want %v", m, x, y, e, right)
			}
		}
	}
	if compared == 0 {
		t.Error("no products fit")
	}
}

func TestP4_6ProductsWithNullVectors(t *testing.T) {
	for _, m := range matrices() {
		vectors, e := Null(m)
		for _, x := range vectors {
			if y, g := Product(m, x); !same(y, whole(make([]int, len(m))...)) || e != api.OK || g != api.OK {
				t.Errorf("Product(%v, %v) = %v, %d, %d; want zeros", m, x, y, e, g)
			}
		}
	}
}

func TestP4_6RankAndNullVectors(t *testing.T) {
	for _, m := range matrices() {
		rank, e := Rank(m)
		vectors, g := Null(m)
		if rank+len(vectors) != len(m[0]) || e != api.OK || g != api.OK {
			t.Errorf("%v has the rank %d, %d, and %d null vectors, %d", m, rank, e, len(vectors), g)
		}
		if rows, e := Independent(m); len(rows) != rank || e != api.OK {
			t.Errorf("%v has the rank %d, and the independent rows %v, %d", m, rank, rows, e)
		}
	}
}

func TestP4_6RankAndDeterminant(t *testing.T) {
	zeros := 0
	for _, m := range matrices() {
		if len(m) != len(m[0]) {
			continue
		}
		d, e := Det(m)
		rank, g := Rank(m)
		if (d == 0) != (rank < len(m)) || e != api.OK || g != api.OK {
			t.Errorf("%v has the determinant %d, %d, and the rank %d, %d", m, d, e, rank, g)
		}
		if d == 0 {
			zeros++
		}
	}
	if zeros == 0 {
		t.Error("no determinant is zero")
	}
}

func TestP4_6RowsExchanged(t *testing.T) {
	for _, m := range few(3) {
		if len(m) != len(m[0]) {
			continue
		}
		d, _ := Det(m)
		for i := range m {
			for j := range i {
				other := slices.Clone(m)
				other[i], other[j] = m[j], m[i]
				if x, e := Det(other); x != -d || e != api.OK {
					t.Errorf("%v has the determinant %d, %v has %d, %d", m, d, other, x, e)
				}
			}
		}
	}
}

func TestP4_6ColumnsAsRows(t *testing.T) {
	for _, m := range matrices() {
		if len(m[0]) > api.MaxRows {
			continue
		}
		columns := make(api.Matrix, len(m[0]))
		for _, row := range m {
			for j, n := range row {
				columns[j] = append(columns[j], n)
			}
		}
		rank, e := Rank(m)
		if r, g := Rank(columns); r != rank || e != api.OK || g != api.OK {
			t.Errorf("%v has the rank %d, %d, its columns have %d, %d", m, rank, e, r, g)
		}
		d, e := Det(m)
		if x, g := Det(columns); x != d || g != e {
			t.Errorf("%v has the determinant %d, %d, its columns have %d, %d", m, d, e, x, g)
		}
	}
}
