package subsets

import (
	"math"
	"slices"

	"loftblock/api"
)

// example is the list of the chapter.
var example = []int{5, -2, -3, 4, -4}

// numbers returns a function that returns one pseudo-random number after the other, always the same ones, from low to high.
func numbers() func(low, high int) int {
	state := uint64(1)
	return func(low, high int) int {
		state = state*6364136223846793005 + 1442695040888963407
		return low + int(state>>11%uint64(high-low+1))
	}
}

// same compares lists, of which nil is equal to an empty one.
func same(a, b []int) bool { return slices.Equal(a, b) }

func sameLists(a, b [][]int) bool { return slices.EqualFunc(a, b, same) }

// add returns the sum of the numbers of a list at some indices.
func add(l, at []int) int {
	sum := 0
	for _, i := range at {
		sum += l[i]
	}
	return sum
}

// upTo returns the numbers from 0 to n - 1.
func upTo(n int) []int {
	list := make([]int, n)
	for i := range list {
		list[i] = i
	}
	return list
}

// choices returns all subsets of so many indices from start to n - 1, in lexicographic order.
func choices(start, n, size int) [][]int {
	if size == 0 {
		return [][]int{nil}
	}
	var all [][]int
	for i := start; i < n; i++ {
		for _, more := range choices(i+1, n, size-1) {
			all = append(all, append([]int{i}, more...))
		}
	}
	return all
}

// orders keeps what ordered has returned, since it takes long for 16 numbers.
var orders = map[int][][]int{}

// ordered returns all subsets of a list with n numbers in their order.
func ordered(n int) [][]int {
	if all, is := orders[n]; is {
		return all
	}
	var all [][]int
	for size := range n + 1 {
		all = append(all, choices(0, n, size)...)
	}
	orders[n] = all
	return all
}

// everything returns all lists with so many numbers from low to high.
func everything(length, low, high int) [][]int {
	all := [][]int{nil}
	for range length {
		var longer [][]int
		for _, l := range all {
			for n := low; n <= high; n++ {
				longer = append(longer, append(slices.Clone(l), n))
			}
		}
		all = longer
	}
	return all
}

// mixed returns a list of pseudo-random numbers from -most to most.
func mixed(next func(low, high int) int, length, most int) []int {
	l := make([]int, length)
	for i := range l {
		l[i] = next(-most, most)
	}
	return l
}

// balanced returns a list of pseudo-random numbers, the last of which makes the sum 0.
func balanced(next func(low, high int) int, length, most int) []int {
	for {
		l := mixed(next, length, most)
		last := add(l, upTo(length-1))
		if last >= -api.MaxSum && last <= api.MaxSum {
			l[length-1] = -last
			return l
		}
	}
}

// shuffled returns a list in a pseudo-random order.
func shuffled(next func(low, high int) int, l []int) []int {
	l = slices.Clone(l)
	for i := range l {
		j := next(0, i)
		l[i], l[j] = l[j], l[i]
	}
	return l
}

// small returns lists of few numbers, for which all can be found by trying.
func small() [][]int {
	list := [][]int{nil, {}, example, {api.MaxSum}, {-api.MaxSum}, {api.MaxSum, -api.MaxSum}, {api.MaxSum, api.MaxSum - 1, -api.MaxSum, 1 - api.MaxSum}}
	for length := range 5 {
		list = append(list, everything(length, -2, 2)...)
	}
	list = append(list, everything(5, -1, 1)...)
	next := numbers()
	for length := 3; length <= 8; length++ {
		for range 15 {
			for _, most := range []int{1, 3, 10, 50, api.MaxSum} {
				list = append(list, mixed(next, length, most), balanced(next, length, most))
			}
		}
	}
	return list
}

// large returns lists of as many numbers as there may be, or nearly so.
func large() [][]int {
	list := [][]int{
		make([]int, 16), slices.Repeat([]int{api.MaxSum}, 16), slices.Repeat([]int{-api.MaxSum}, 16), slices.Repeat([]int{api.MaxSum, -api.MaxSum}, 8),
		slices.Repeat([]int{1}, 16), slices.Repeat([]int{3, -2}, 8), upTo(16), {-15, 1, 1, 1, 1, 1, 1, 1, 1, 1, 1, 1, 1, 1, 1, 1},
		{8, -1, 7, -2, 6, -3, 5, -4, 4, -5, 3, -6, 2, -7, 1, -8}, {1, 2, 4, 8, 16, 32, 64, 128, 256, 512, 1024, 2048, 4096, 8192, 16384, -32767},
		{32, -8, -8, -8, -8, 27, -9, -9, -9, 10, -5, -5, 4, -4, 0, 0}, {1 << 49, 1 << 49, -1 << 50, 1 << 48, 1 << 48, -1 << 49, 3, -2, -1, 5, -5, 0, 1<<50 - 1, 1, -1 << 50, 0},
	}
	next := numbers()
	for _, length := range []int{13, 15, 16} {
		for _, most := range []int{20, 1000, api.MaxSum} {
			list = append(list, mixed(next, length, most), balanced(next, length, most))
		}
	}
	return list
}

// wrong is a list that is none, with the error that it has.
type wrong struct {
	l []int
	e api.Errno
}

// strangers returns lists with too many numbers, or with numbers out of range.
func strangers() []wrong {
	var list []wrong
	for _, length := range []int{17, 18, 32, 63, 64, 65, 1000, 100000} {
		many := make([]int, length)
		worse := slices.Clone(many)
		worse[0], worse[length-1] = math.MaxInt, math.MinInt
		list = append(list, wrong{many, api.ErrLimit}, wrong{worse, api.ErrLimit}, wrong{slices.Repeat([]int{1}, length), api.ErrLimit})
	}
	for _, n := range []int{api.MaxSum + 1, -api.MaxSum - 1, 1 << 60, math.MaxInt, math.MinInt} {
		for _, length := range []int{1, 2, 7, 16} {
			for i := range length {
				l := make([]int, length)
				l[i] = n
				list = append(list, wrong{l, api.ErrArg})
			}
		}
		list = append(list, wrong{[]int{n, -n}, api.ErrArg}, wrong{[]int{1, 2, n}, api.ErrArg})
	}
	return list
}
