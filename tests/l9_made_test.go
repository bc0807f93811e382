package tests

import (
	"math"
	"math/big"
	"reflect"
	"slices"
	"testing"

	"loop.example/g01210/impl"
)

// powersOfSix are the numbers of all lists of 0 to 6 throws.
var powersOfSix = []int{1, 6, 36, 216, 1296, 7776, 46656}

// eachList calls a function with each list of so many numbers below a bound, in lexicographic
// order.
func eachList(size, bound int, call func(list []int)) {
	list := make([]int, size)
	var fill func(place int)
	fill = func(place int) {
		if place == size {
			call(list)
			return
		}
		for number := range bound {
			list[place] = number
			fill(place + 1)
		}
	}
	fill(0)
}

// digitsOf returns so many digits of a number by a base, the first one counting most.
func digitsOf(number, base, size int) []int {
	digits := make([]int, size)
	for i := range digits {
		digits[size-1-i] = number % base
		number /= base
	}
	return digits
}

// someBelow returns a list of so many numbers below a bound.
func (r *someNumbers) someBelow(size, bound int) []int {
	var list []int
	for range size {
		list = append(list, r.below(bound))
	}
	return list
}

// takenFor tells how many of all numbers of n throws are taken: multiples of m are added up while
// they are not too great.
func takenFor(m, n int) int {
	taken := 0
	for taken+m <= powersOfSix[n] {
		taken += m
	}
	return taken
}

// sizesFor are sizes for n throws: all of them where these are few, and those at the bounds, with
// few and many throws refused, and without a pattern.
func sizesFor(n int) []int {
	var sizes []int
	for m := 1; m <= 1000 && m <= powersOfSix[n]; m++ {
		if n <= 3 || m <= 12 || m >= 998 || 1296%m == 0 || m%97 == 0 || m == 649 || m == 648 || m == 999 {
			sizes = append(sizes, m)
		}
	}
	return sizes
}

// sizesTooGreat are sizes that n throws cannot make, but that are sizes.
func sizesTooGreat(n int) []int {
	var sizes []int
	for m := powersOfSix[n] + 1; m <= 1000; m++ {
		sizes = append(sizes, m)
	}
	return sizes
}

// noListsBelow are lists that are no lists of so many numbers below a bound, each because of one
// number.
func noListsBelow(size, bound int) [][]int {
	var lists [][]int
	for _, number := range append(otherNumbers(0, bound-1), 6, 7, 30) {
		for place := range size {
			list := make([]int, size)
			list[place] = number
			lists = append(lists, list)
		}
	}
	return lists
}

// listsTooLong are lists of numbers 0 and 1 that are longer than MaxList.
func listsTooLong() [][]int {
	row := someNumbers(900)
	return [][]int{make([]int, 41), row.someBelow(41, 2), row.someBelow(42, 2), row.someBelow(43, 2), make([]int, 80), make([]int, 1000), make([]int, 1<<20)}
}

func TestMadeLimits(t *testing.T) {
	if impl.MaxSize != 1000 || impl.MaxMade != 6 || impl.MaxList != 40 {
		t.Error("limits", impl.MaxSize, impl.MaxMade, impl.MaxList)
	}
}

func TestNumbersOfAllThrows(t *testing.T) {
	for n := 1; n <= 6; n++ {
		want := 0
		eachList(n, 6, func(throws []int) {
			if got, ok := impl.NumberOfThrows(throws); !ok || got != want {
				t.Fatal("NumberOfThrows", throws, got, ok, want)
			}
			want++
		})
		if want != powersOfSix[n] {
			t.Fatal("numbers of throws", n, want)
		}
	}
}

func TestKnownNumbersOfThrows(t *testing.T) {
	cases := []struct {
		throws []int
		want   int
	}{
		{[]int{0}, 0}, {[]int{5}, 5}, {[]int{1, 2}, 8}, {[]int{2, 1}, 13}, {[]int{0, 5}, 5}, {[]int{5, 0}, 30}, {[]int{1, 0, 0}, 36}, {[]int{0, 0, 1}, 1}, {[]int{1, 2, 3}, 51},
		{[]int{0, 0, 0, 0, 0, 0}, 0}, {[]int{1, 0, 0, 0, 0, 0}, 7776}, {[]int{5, 5, 5, 5, 5, 5}, 46655}, {[]int{5, 5, 5, 5}, 1295}, {[]int{0, 1, 2, 3, 4, 5}, 1865},
	}
	for _, c := range cases {
		if got, ok := impl.NumberOfThrows(c.throws); !ok || got != c.want {
			t.Error("NumberOfThrows", c, got, ok)
		}
	}
}

// numberFails checks that throws have no number, and that nothing is made of them.
func numberFails(t *testing.T, throws []int) {
	t.Helper()
	if got, ok := impl.NumberOfThrows(throws); ok || got != 0 {
		t.Error("NumberOfThrows", throws, got, ok)
	}
	for _, m := range []int{1, 2, 5, 6} {
		makeFails(t, m, throws)
	}
}

// makeFails checks that no number below m can be made of throws.
func makeFails(t *testing.T, m int, throws []int) {
	t.Helper()
	if made, taken, ok := impl.MakeNumber(m, throws); ok || made != 0 || taken {
		t.Error("MakeNumber", m, throws, made, taken, ok)
	}
}

func TestThrowsWithoutANumber(t *testing.T) {
	numberFails(t, nil)
	numberFails(t, []int{})
	for _, size := range []int{7, 8, 12, 40, 41, 1000, 1 << 20} {
		numberFails(t, make([]int, size))
		numberFails(t, slices.Repeat([]int{5}, size))
	}
	for size := 1; size <= 6; size++ {
		for _, throws := range noListsBelow(size, 6) {
			numberFails(t, throws)
		}
	}
}

// checkMade checks what is made of all lists of n throws below m.
func checkMade(t *testing.T, m, n int) {
	t.Helper()
	want := takenFor(m, n)
	got, ok := impl.TakenOf(m, n)
	if !ok || got != want {
		t.Fatal("TakenOf", m, n, got, ok, want)
	}
	ways := make([]int, m)
	number := 0
	eachList(n, 6, func(throws []int) {
		made, taken, ok := impl.MakeNumber(m, throws)
		if !ok || taken != (number < want) || taken && made != number%m || !taken && made != 0 {
			t.Fatal("MakeNumber", m, throws, made, taken, ok)
		}
		if taken {
			ways[made]++
		}
		number++
	})
	for made, of := range ways {
		if of != want/m || of == 0 {
			t.Error("not all numbers below m have the same ways", m, n, made, of)
		}
	}
}

func TestNumbersMadeOfAllThrows(t *testing.T) {
	for n := 1; n <= 4; n++ {
		for _, m := range sizesFor(n) {
			checkMade(t, m, n)
		}
	}
	for n := 5; n <= 6; n++ {
		for _, m := range []int{1, 2, 5, 7, 36, 649, 999, 1000} {
			checkMade(t, m, n)
		}
	}
}

func TestThrowsAtTheEdgeOfRefusal(t *testing.T) {
	for n := 1; n <= 6; n++ {
		for m := 1; m <= 1000 && m <= powersOfSix[n]; m++ {
			edge := takenFor(m, n)
			if made, taken, ok := impl.MakeNumber(m, digitsOf(edge-1, 6, n)); !ok || made != m-1 || !taken {
				t.Error("the last throws that are taken", m, n, made, taken, ok)
			}
			if made, taken, ok := impl.MakeNumber(m, digitsOf(0, 6, n)); !ok || made != 0 || !taken {
				t.Error("the first throws that are taken", m, n, made, taken, ok)
			}
			if edge == powersOfSix[n] {
				continue
			}
			for _, number := range []int{edge, powersOfSix[n] - 1} {
				if made, taken, ok := impl.MakeNumber(m, digitsOf(number, 6, n)); !ok || made != 0 || taken {
					t.Error("throws that are refused", m, n, number, made, taken, ok)
				}
			}
		}
	}
}

func TestKnownNumbersMade(t *testing.T) {
	cases := []struct {
		m      int
		throws []int
		made   int
		taken  bool
	}{
		{5, []int{3}, 3, true}, {5, []int{4}, 4, true}, {5, []int{5}, 0, false}, {5, []int{0}, 0, true}, {6, []int{5}, 5, true}, {4, []int{3}, 3, true}, {4, []int{4}, 0, false},
		{3, []int{5}, 2, true}, {2, []int{4}, 0, true}, {1, []int{5}, 0, true}, {1, []int{0}, 0, true}, {1, []int{5, 5, 5, 5, 5, 5}, 0, true}, {10, []int{4, 5}, 9, true}, {10, []int{5, 0}, 0, false},
		{10, []int{5, 5}, 0, false}, {10, []int{1, 4}, 0, true}, {10, []int{1, 5}, 1, true}, {36, []int{5, 5}, 35, true}, {7, []int{5, 4}, 6, true}, {7, []int{5, 5}, 0, false},
		{1000, []int{4, 3, 4, 3}, 999, true}, {1000, []int{4, 3, 4, 4}, 0, false}, {1000, []int{5, 5, 0, 5, 5, 1}, 571, true}, {1000, []int{5, 5, 2, 5, 4, 3}, 999, true},
		{1000, []int{5, 5, 2, 5, 4, 4}, 0, false}, {216, []int{5, 5, 5}, 215, true}, {109, []int{3, 0, 0}, 108, true}, {109, []int{3, 0, 1}, 0, false},
	}
	for _, c := range cases {
		if made, taken, ok := impl.MakeNumber(c.m, c.throws); !ok || made != c.made || taken != c.taken {
			t.Error("MakeNumber", c, made, taken, ok)
		}
	}
}

func TestMeanThrows(t *testing.T) {
	for n := 1; n <= 6; n++ {
		for m := 1; m <= 1000 && m <= powersOfSix[n]; m++ {
			taken := takenFor(m, n)
			if got, ok := impl.TakenOf(m, n); !ok || got != taken {
				t.Error("TakenOf", m, n, got, ok, taken)
			}
			got, ok := impl.MeanThrows(m, n)
			if !ok {
				t.Fatal("MeanThrows", m, n)
			}
			// There are n throws, and with the chance that they are refused all is as before.
			middle := asRatio(t, got)
			want := ratio(powersOfSix[n]-taken, powersOfSix[n])
			if want.Add(want.Mul(want, middle), ratio(n, 1)); want.Cmp(middle) != 0 {
				t.Error("MeanThrows", m, n, got, want)
			}
			if isWhole := powersOfSix[n]%m == 0; isWhole != (got == [2]int{n, 1}) {
				t.Error("MeanThrows is n, or is not", m, n, got)
			}
		}
	}
}

func TestKnownMeanThrows(t *testing.T) {
	cases := []struct {
		m, n, taken int
		mean        [2]int
	}{
		{1, 1, 6, [2]int{1, 1}}, {1, 6, 46656, [2]int{6, 1}}, {4, 1, 4, [2]int{3, 2}}, {5, 1, 5, [2]int{6, 5}}, {6, 1, 6, [2]int{1, 1}}, {10, 2, 30, [2]int{12, 5}}, {36, 2, 36, [2]int{2, 1}},
		{19, 2, 19, [2]int{72, 19}}, {100, 3, 200, [2]int{81, 25}}, {216, 3, 216, [2]int{3, 1}}, {109, 3, 109, [2]int{648, 109}}, {1000, 4, 1000, [2]int{648, 125}}, {1000, 6, 46000, [2]int{17496, 2875}},
		{649, 5, 7139, [2]int{38880, 7139}}, {7, 6, 46655, [2]int{279936, 46655}}, {972, 5, 7776, [2]int{5, 1}},
	}
	for _, c := range cases {
		if got, ok := impl.TakenOf(c.m, c.n); !ok || got != c.taken {
			t.Error("TakenOf", c, got, ok)
		}
		if got, ok := impl.MeanThrows(c.m, c.n); !ok || got != c.mean {
			t.Error("MeanThrows", c, got, ok)
		}
	}
}

func TestBestThrowsAgainstAllNumbers(t *testing.T) {
	for m := 1; m <= 1000; m++ {
		var best int
		var least *big.Rat
		for n := 6; n >= 1; n-- {
			if m <= powersOfSix[n] {
				if middle := ratio(n*powersOfSix[n], takenFor(m, n)); least == nil || middle.Cmp(least) <= 0 {
					best, least = n, middle
				}
			}
		}
		if n, middle, ok := impl.BestThrows(m); !ok || n != best || middle != fraction(least) {
			t.Error("BestThrows", m, n, middle, ok, best, least)
		}
	}
}

func TestKnownBestThrows(t *testing.T) {
	cases := []struct {
		m, n int
		mean [2]int
	}{
		{1, 1, [2]int{1, 1}}, {2, 1, [2]int{1, 1}}, {4, 1, [2]int{3, 2}}, {5, 1, [2]int{6, 5}}, {6, 1, [2]int{1, 1}}, {7, 2, [2]int{72, 35}}, {8, 2, [2]int{9, 4}}, {10, 2, [2]int{12, 5}},
		{19, 3, [2]int{648, 209}}, {36, 2, [2]int{2, 1}}, {37, 3, [2]int{648, 185}}, {100, 3, [2]int{81, 25}}, {109, 4, [2]int{5184, 1199}}, {216, 3, [2]int{3, 1}}, {649, 5, [2]int{38880, 7139}},
		{1000, 4, [2]int{648, 125}},
		// With one throw more the mean is the same.
		{24, 2, [2]int{3, 1}}, {162, 3, [2]int{4, 1}},
	}
	for _, c := range cases {
		if n, middle, ok := impl.BestThrows(c.m); !ok || n != c.n || middle != c.mean {
			t.Error("BestThrows", c, n, middle, ok)
		}
	}
}

// sizeFails checks that no number below m is made of n throws.
func sizeFails(t *testing.T, m, n int) {
	t.Helper()
	if got, ok := impl.TakenOf(m, n); ok || got != 0 {
		t.Error("TakenOf", m, n, got, ok)
	}
	if got, ok := impl.MeanThrows(m, n); ok || got != [2]int{} {
		t.Error("MeanThrows", m, n, got, ok)
	}
	for _, size := range []int{0, 1, 6, 36, 40} {
		listFails(t, m, n, make([]int, size))
	}
	if n >= 0 && n <= 40 {
		makeFails(t, m, make([]int, n))
	}
}

// listFails checks that no list is made.
func listFails(t *testing.T, m, n int, throws []int) {
	t.Helper()
	if made, refused, ok := impl.MakeList(m, n, throws); ok || len(made) != 0 || refused != 0 {
		t.Error("MakeList", m, n, throws, made, refused, ok)
	}
}

func TestSizesThatAreNotValid(t *testing.T) {
	for _, m := range otherNumbers(1, 1000) {
		for n := range 8 {
			sizeFails(t, m, n)
		}
		if n, middle, ok := impl.BestThrows(m); ok || n != 0 || middle != [2]int{} {
			t.Error("BestThrows", m, n, middle, ok)
		}
	}
	for _, n := range append(otherNumbers(1, 6), 24, 25, 63, 64, 1000) {
		for _, m := range []int{1, 2, 6, 36, 999, 1000} {
			sizeFails(t, m, n)
		}
	}
	for n := 1; n <= 6; n++ {
		for _, m := range sizesTooGreat(n) {
			sizeFails(t, m, n)
		}
	}
}

// listMade tells by the document's words what is made of a list of throws.
func listMade(m, n int, throws []int) (made []int, refused int) {
	for first := 0; first+n <= len(throws); first += n {
		number := 0
		for i, throw := range throws[first : first+n] {
			number += throw * powersOfSix[n-1-i]
		}
		if number < takenFor(m, n) {
			made = append(made, number%m)
		} else {
			refused++
		}
	}
	return made, refused
}

func TestMakeListAgainstAllLists(t *testing.T) {
	someRefused, someTaken := 0, 0
	for size := range 5 {
		for n := 1; n <= 3; n++ {
			for _, m := range []int{1, 2, 4, 5, 6, 7, 10, 19, 36, 50, 109, 216} {
				if m > powersOfSix[n] {
					continue
				}
				eachList(size, 6, func(throws []int) {
					want, wantRefused := listMade(m, n, throws)
					got, refused, ok := impl.MakeList(m, n, throws)
					if !ok || !slices.Equal(got, want) || refused != wantRefused {
						t.Fatal("MakeList", m, n, throws, got, refused, ok)
					}
					someRefused += refused
					someTaken += len(got)
				})
			}
		}
	}
	if someRefused < 1000 || someTaken < 1000 {
		t.Error("few throws are refused or taken", someRefused, someTaken)
	}
}

func TestMakeListOfLongLists(t *testing.T) {
	row := someNumbers(901)
	for n := 1; n <= 6; n++ {
		for _, m := range sizesFor(n) {
			for _, size := range []int{0, 1, n - 1, n, n + 1, 2*n - 1, 2 * n, 39, 40, row.below(41)} {
				throws := row.someBelow(size, 6)
				want, wantRefused := listMade(m, n, throws)
				got, refused, ok := impl.MakeList(m, n, throws)
				if !ok || !slices.Equal(got, want) || refused != wantRefused || len(got)+refused != size/n {
					t.Fatal("MakeList", m, n, throws, got, refused, ok)
				}
				for _, number := range got {
					if number < 0 || number >= m {
						t.Error("MakeList makes a number that is not below m", m, n, throws, number)
					}
				}
				if size != n {
					continue
				}
				if made, taken, ok := impl.MakeNumber(m, throws); !ok || taken != (len(got) == 1) || taken && made != got[0] {
					t.Error("MakeList is not MakeNumber", m, n, throws, got, made)
				}
			}
		}
	}
}

func TestKnownLists(t *testing.T) {
	cases := []struct {
		m, n    int
		throws  []int
		made    []int
		refused int
	}{
		{5, 1, []int{5, 0, 4}, []int{0, 4}, 1}, {5, 1, nil, nil, 0}, {5, 1, []int{}, nil, 0}, {5, 1, []int{5, 5, 5}, nil, 3}, {6, 1, []int{5, 0, 3}, []int{5, 0, 3}, 0},
		{10, 2, []int{4, 5, 5, 0, 1, 4}, []int{9, 0}, 1}, {10, 2, []int{4, 5, 5, 0, 1}, []int{9}, 1}, {10, 2, []int{4}, nil, 0}, {1, 6, []int{1, 2, 3, 4, 5}, nil, 0}, {1, 6, []int{1, 2, 3, 4, 5, 0}, []int{0}, 0},
		{1, 1, []int{5, 4, 3}, []int{0, 0, 0}, 0}, {1000, 4, []int{4, 3, 4, 3, 4, 3, 4, 4, 0, 0, 0, 1}, []int{999, 1}, 1}, {7, 2, []int{5, 5, 5, 4, 0, 0, 5}, []int{6, 0}, 1},
		{2, 3, slices.Repeat([]int{0, 0, 5, 0, 0, 2}, 6), slices.Repeat([]int{1, 0}, 6), 0}, {36, 2, slices.Repeat([]int{5}, 40), slices.Repeat([]int{35}, 20), 0}, {4, 1, slices.Repeat([]int{4}, 40), nil, 40},
		{6, 6, slices.Repeat([]int{0, 0, 0, 0, 0, 5}, 6), slices.Repeat([]int{5}, 6), 0}, {3, 6, slices.Repeat([]int{5}, 40), slices.Repeat([]int{2}, 6), 0},
	}
	for _, c := range cases {
		if got, refused, ok := impl.MakeList(c.m, c.n, c.throws); !ok || !slices.Equal(got, c.made) || refused != c.refused {
			t.Error("MakeList", c, got, refused, ok)
		}
	}
}

// bitsFor tells the bits of a list of throws.
func bitsFor(throws []int) []int {
	var bits []int
	for _, throw := range throws {
		bits = append(bits, [][]int{{0, 0}, {0, 1}, {1, 0}, {1, 1}, {0}, {1}}[throw]...)
	}
	return bits
}

// checkBits checks the bits of a list of throws.
func checkBits(t *testing.T, throws []int) {
	t.Helper()
	got, ok := impl.BitsOf(throws)
	if !ok || !slices.Equal(got, bitsFor(throws)) || len(got) < len(throws) {
		t.Fatal("BitsOf", throws, got, ok)
	}
}

func TestBitsOf(t *testing.T) {
	for size := range 6 {
		eachList(size, 6, func(throws []int) { checkBits(t, throws) })
	}
	row := someNumbers(902)
	for size := range 41 {
		for range 20 {
			checkBits(t, row.someBelow(size, 6))
		}
		for throw := range 6 {
			checkBits(t, slices.Repeat([]int{throw}, size))
		}
	}
}

func TestKnownBits(t *testing.T) {
	cases := []struct {
		throws, bits []int
	}{
		{nil, nil}, {[]int{}, nil}, {[]int{0}, []int{0, 0}}, {[]int{1}, []int{0, 1}}, {[]int{2}, []int{1, 0}}, {[]int{3}, []int{1, 1}}, {[]int{4}, []int{0}}, {[]int{5}, []int{1}},
		{[]int{3, 4}, []int{1, 1, 0}}, {[]int{4, 3}, []int{0, 1, 1}}, {[]int{5, 2, 4}, []int{1, 1, 0, 0}}, {slices.Repeat([]int{5}, 40), slices.Repeat([]int{1}, 40)},
		{slices.Repeat([]int{2}, 40), slices.Repeat([]int{1, 0}, 40)},
	}
	for _, c := range cases {
		if got, ok := impl.BitsOf(c.throws); !ok || !slices.Equal(got, c.bits) {
			t.Error("BitsOf", c, got, ok)
		}
	}
}

// throwsFor tells the throws that are made of bits, and how many bits are left.
func throwsFor(bits []int) ([]int, int) {
	var throws []int
	for len(bits) >= 3 {
		if number := 4*bits[0] + 2*bits[1] + bits[2]; number <= 5 {
			throws = append(throws, number)
		}
		bits = bits[3:]
	}
	return throws, len(bits)
}

// checkThrows checks the throws that are made of bits.
func checkThrows(t *testing.T, bits []int) {
	t.Helper()
	want, wantLeft := throwsFor(bits)
	got, left, ok := impl.ThrowsOf(bits)
	if !ok || !slices.Equal(got, want) || left != wantLeft {
		t.Fatal("ThrowsOf", bits, got, left, ok)
	}
}

func TestThrowsOf(t *testing.T) {
	for size := range 11 {
		ways := [6]int{}
		eachList(size, 2, func(bits []int) {
			checkThrows(t, bits)
			throws, _, _ := impl.ThrowsOf(bits)
			for _, throw := range throws {
				ways[throw]++
			}
		})
		for _, of := range ways {
			if of != ways[0] || (of > 0) != (size >= 3) {
				t.Error("not all throws have the same ways", size, ways)
			}
		}
	}
	row := someNumbers(903)
	for size := range 41 {
		for range 20 {
			checkThrows(t, row.someBelow(size, 2))
		}
	}
}

func TestKnownThrows(t *testing.T) {
	cases := []struct {
		bits, throws []int
		left         int
	}{
		{nil, nil, 0}, {[]int{}, nil, 0}, {[]int{1}, nil, 1}, {[]int{1, 1}, nil, 2}, {[]int{0, 0, 0}, []int{0}, 0}, {[]int{0, 0, 1}, []int{1}, 0}, {[]int{1, 0, 0}, []int{4}, 0}, {[]int{1, 0, 1}, []int{5}, 0},
		{[]int{1, 1, 0}, nil, 0}, {[]int{1, 1, 1}, nil, 0}, {[]int{1, 1, 0, 1}, nil, 1}, {[]int{1, 0, 1, 1, 1, 0, 1}, []int{5}, 1}, {[]int{1, 1, 0, 0, 1, 1, 1, 0}, []int{3}, 2},
		{slices.Repeat([]int{1, 0, 1}, 13), slices.Repeat([]int{5}, 13), 0}, {slices.Repeat([]int{1}, 40), nil, 1}, {slices.Repeat([]int{0}, 40), slices.Repeat([]int{0}, 13), 1}, {slices.Repeat([]int{0, 1}, 19), slices.Repeat([]int{2, 5}, 6), 2},
	}
	for _, c := range cases {
		if got, left, ok := impl.ThrowsOf(c.bits); !ok || !slices.Equal(got, c.throws) || left != c.left {
			t.Error("ThrowsOf", c, got, left, ok)
		}
	}
}

// coinsFor tells the bits that are made of pairs of throws, and how many pairs have made none.
func coinsFor(throws []int, limit int) ([]int, int) {
	var coins []int
	without := 0
	for i := 1; i < len(throws); i += 2 {
		switch first, second := throws[i-1], throws[i]; {
		case first < limit && second >= limit:
			coins = append(coins, 1)
		case first >= limit && second < limit:
			coins = append(coins, 0)
		default:
			without++
		}
	}
	return coins, without
}

// checkCoin checks the bits that are made of pairs of throws.
func checkCoin(t *testing.T, throws []int, limit int) {
	t.Helper()
	want, wantWithout := coinsFor(throws, limit)
	got, without, ok := impl.EvenCoin(throws, limit)
	if !ok || !slices.Equal(got, want) || without != wantWithout || len(got)+without != len(throws)/2 {
		t.Fatal("EvenCoin", throws, limit, got, without, ok)
	}
}

func TestEvenCoin(t *testing.T) {
	row := someNumbers(904)
	for limit := range 7 {
		for size := range 6 {
			eachList(size, 6, func(throws []int) { checkCoin(t, throws, limit) })
		}
		for size := range 41 {
			for range 10 {
				checkCoin(t, row.someBelow(size, 6), limit)
			}
		}
	}
}

func TestPairsForCoin(t *testing.T) {
	for limit := range 7 {
		var ways [2]int
		none := 0
		eachList(2, 6, func(pair []int) {
			coins, without, _ := impl.EvenCoin(pair, limit)
			none += without
			for _, coin := range coins {
				ways[coin]++
			}
		})
		if ways[0] != ways[1] || ways[0]+ways[1]+none != 36 || (ways[0] == 0) != (limit == 0 || limit == 6) {
			t.Error("both bits do not have the same ways", limit, ways, none)
		}
		got, ok := impl.PairsForCoin(limit)
		if ways[0] == 0 {
			if ok || got != [2]int{} {
				t.Error("PairsForCoin without an end", limit, got, ok)
			}
		} else if !ok || got != fraction(ratio(36, ways[0]+ways[1])) {
			t.Error("PairsForCoin", limit, got, ok)
		}
	}
	for limit, want := range [][2]int{1: {18, 5}, 2: {9, 4}, 3: {2, 1}, 4: {9, 4}, 5: {18, 5}} {
		if got, ok := impl.PairsForCoin(limit); got != want || ok != (limit > 0) {
			t.Error("PairsForCoin", limit, got, ok)
		}
	}
	for _, limit := range otherNumbers(1, 5) {
		if got, ok := impl.PairsForCoin(limit); ok || got != [2]int{} {
			t.Error("PairsForCoin", limit, got, ok)
		}
	}
}

func TestKnownCoins(t *testing.T) {
	cases := []struct {
		throws  []int
		limit   int
		coins   []int
		without int
	}{
		{nil, 3, nil, 0}, {[]int{}, 0, nil, 0}, {[]int{0}, 3, nil, 0}, {[]int{5}, 3, nil, 0}, {[]int{0, 5}, 3, []int{1}, 0}, {[]int{5, 0}, 3, []int{0}, 0}, {[]int{0, 5, 5, 0, 1, 1}, 3, []int{1, 0}, 1},
		{[]int{2, 3}, 3, []int{1}, 0}, {[]int{3, 2}, 3, []int{0}, 0}, {[]int{2, 2}, 3, nil, 1}, {[]int{3, 3}, 3, nil, 1}, {[]int{3, 4, 0, 1}, 3, nil, 2}, {[]int{0, 5, 5}, 3, []int{1}, 0}, {[]int{1, 1, 0}, 3, nil, 1},
		{[]int{0, 5, 5, 0}, 0, nil, 2}, {[]int{0, 5, 5, 0}, 6, nil, 2}, {[]int{0, 0, 5, 5, 3}, 0, nil, 2}, {[]int{0, 0, 5, 5, 3}, 6, nil, 2}, {[]int{0, 1, 1, 0}, 1, []int{1, 0}, 0}, {[]int{4, 5, 5, 4}, 5, []int{1, 0}, 0},
		{slices.Repeat([]int{0, 5}, 20), 3, slices.Repeat([]int{1}, 20), 0}, {slices.Repeat([]int{4, 0}, 20), 4, slices.Repeat([]int{0}, 20), 0}, {slices.Repeat([]int{4}, 39), 4, nil, 19}, {make([]int, 40), 0, nil, 20},
	}
	for _, c := range cases {
		if got, without, ok := impl.EvenCoin(c.throws, c.limit); !ok || !slices.Equal(got, c.coins) || without != c.without {
			t.Error("EvenCoin", c, got, without, ok)
		}
	}
}

// coinFails checks that no bits are made of pairs of throws.
func coinFails(t *testing.T, throws []int, limit int) {
	t.Helper()
	if got, without, ok := impl.EvenCoin(throws, limit); ok || len(got) != 0 || without != 0 {
		t.Error("EvenCoin", throws, limit, got, without, ok)
	}
}

// throwsFail checks that a list is none of throws.
func throwsFail(t *testing.T, throws []int) {
	t.Helper()
	if got, ok := impl.BitsOf(throws); ok || len(got) != 0 {
		t.Error("BitsOf", throws, got, ok)
	}
	for n := 1; n <= 6; n++ {
		listFails(t, 1, n, throws)
		listFails(t, 5, n, throws)
		listFails(t, powersOfSix[min(n, 3)], n, throws)
	}
	for limit := range 7 {
		coinFails(t, throws, limit)
	}
}

// A list with a number that is no throw is none of throws, wherever this number stands: also where
// it would be left.
func TestListsOfNoThrows(t *testing.T) {
	for _, size := range []int{1, 2, 3, 7, 39, 40} {
		for _, throws := range noListsBelow(size, 6) {
			throwsFail(t, throws)
		}
	}
	for _, throws := range listsTooLong() {
		throwsFail(t, throws)
	}
	for _, limit := range otherNumbers(0, 6) {
		for _, throws := range [][]int{nil, {0}, {0, 5}, make([]int, 40)} {
			coinFails(t, throws, limit)
		}
	}
}

func TestListsOfNoBits(t *testing.T) {
	lists := listsTooLong()
	for _, size := range []int{1, 2, 3, 4, 39, 40} {
		lists = append(lists, noListsBelow(size, 2)...)
	}
	for _, bits := range lists {
		if got, left, ok := impl.ThrowsOf(bits); ok || len(got) != 0 || left != 0 {
			t.Error("ThrowsOf", bits, got, left, ok)
		}
	}
	for number := 2; number <= 6; number++ {
		if got, left, ok := impl.ThrowsOf([]int{0, 1, number}); ok || len(got) != 0 || left != 0 {
			t.Error("ThrowsOf", number, got, left, ok)
		}
	}
}

// fairPools are those of somePools, and pools with many fair sizes.
func fairPools() []pool {
	zeroOr := func(number int) die { return die{0, 0, 0, number, number, number} }
	threeOf := func(step int) die { return die{0, 0, step, step, 2 * step, 2 * step} }
	upToFive, sixes := die{0, 1, 2, 3, 4, 5}, die{0, 6, 12, 18, 24, 30}
	return append(somePools(),
		pool{ordinary, sixes}, pool{upToFive, sixes}, pool{sixes, sixes}, pool{upToFive, zeroOr(6), zeroOr(12)}, pool{zeroOr(1), zeroOr(2), zeroOr(4), zeroOr(8)},
		pool{zeroOr(1)}, pool{zeroOr(30)}, pool{zeroOr(15)}, pool{threeOf(1), threeOf(3), threeOf(9)}, pool{threeOf(1), threeOf(1), zeroOr(3)},
		pool{{1, 3, 5, 7, 9, 11}, zeroOr(1)}, pool{{0, 5, 10, 15, 20, 25}}, pool{{0, 7, 14, 21, 22, 29}}, pool{alone(30), alone(10)}, pool{alone(13), ordinary})
}

// modsFor tells the ways of all remainders of the sum of the roll of a pool.
func modsFor(p pool, m int) []int {
	ways := make([]int, m)
	eachRoll(p, func(roll []int) { ways[sumOf(roll)%m]++ })
	return ways
}

func TestRemaindersAgainstAllOutcomes(t *testing.T) {
	for _, p := range fairPools() {
		var fair []int
		for m := 1; m <= 40; m++ {
			want := modsFor(p, m)
			got, ok := impl.ModTable(p, m)
			if !ok || !slices.Equal(got, want) || sumOf(got) != outcomes(p) {
				t.Fatal("ModTable", p, m, got, ok, want)
			}
			if !slices.ContainsFunc(want, func(ways int) bool { return ways*m != outcomes(p) }) {
				fair = append(fair, m)
			}
		}
		if got, ok := impl.FairSizes(p); !ok || !slices.Equal(got, fair) {
			t.Error("FairSizes", p, got, ok, fair)
		}
	}
}

func TestKnownRemainders(t *testing.T) {
	cases := []struct {
		p    pool
		m    int
		want []int
	}{
		{pool{ordinary}, 4, []int{1, 2, 2, 1}}, {pool{ordinary}, 1, []int{6}}, {pool{ordinary}, 6, []int{1, 1, 1, 1, 1, 1}}, {pool{ordinary}, 7, []int{0, 1, 1, 1, 1, 1, 1}}, {pool{ordinary, ordinary}, 4, []int{9, 8, 9, 10}},
		{pool{alone(30), alone(10)}, 40, append([]int{36}, make([]int, 39)...)}, {pool{alone(0)}, 2, []int{6, 0}}, {pool{alone(30), alone(30), alone(30), alone(30)}, 1, []int{1296}}, {pool{alone(30), alone(30), alone(30), alone(30)}, 7, []int{0, 1296, 0, 0, 0, 0, 0}},
		{pool{{0, 0, 0, 0, 0, 30}}, 4, []int{5, 0, 1, 0}},
	}
	for _, c := range cases {
		if got, ok := impl.ModTable(c.p, c.m); !ok || !slices.Equal(got, c.want) {
			t.Error("ModTable", c, got, ok)
		}
	}
}

func TestKnownFairSizes(t *testing.T) {
	cases := []struct {
		p    pool
		want []int
	}{
		{pool{ordinary}, []int{1, 2, 3, 6}}, {pool{ordinary, ordinary}, []int{1, 2, 3, 6}}, {pool{alone(0)}, []int{1}}, {pool{alone(30), alone(30), alone(30), alone(30)}, []int{1}}, {pool{{0, 0, 0, 1, 1, 1}}, []int{1, 2}},
		{pool{{0, 0, 0, 1, 1, 1}, {0, 0, 0, 2, 2, 2}, {0, 0, 0, 4, 4, 4}, {0, 0, 0, 8, 8, 8}}, []int{1, 2, 4, 8, 16}}, {pool{{0, 0, 1, 1, 2, 2}, {0, 0, 3, 3, 6, 6}, {0, 0, 9, 9, 18, 18}}, []int{1, 3, 9, 27}},
		{pool{ordinary, {0, 6, 12, 18, 24, 30}}, []int{1, 2, 3, 4, 6, 9, 12, 18, 36}}, {pool{{0, 1, 2, 3, 4, 5}, {0, 0, 0, 6, 6, 6}, {0, 0, 0, 12, 12, 12}}, []int{1, 2, 3, 4, 6, 8, 12, 24}},
		{pool{{0, 0, 0, 20, 20, 20}}, []int{1}}, {pool{{0, 0, 0, 15, 15, 15}}, []int{1, 2}}, {pool{{1, 2, 2, 3, 3, 4}, {1, 3, 4, 5, 6, 8}}, []int{1, 2, 3, 6}},
	}
	for _, c := range cases {
		if got, ok := impl.FairSizes(c.p); !ok || !slices.Equal(got, c.want) {
			t.Error("FairSizes", c, got, ok)
		}
	}
}

func TestOneFairDieMakesAPoolFair(t *testing.T) {
	checked := 0
	for _, d := range append(someDice(), die{0, 0, 0, 1, 1, 1}, die{0, 0, 10, 10, 20, 20}, die{1, 3, 5, 8, 10, 12}) {
		sizes, ok := impl.FairSizes(pool{d})
		if !ok {
			t.Fatal("FairSizes", d)
		}
		for _, p := range somePools() {
			if len(p) > 3 || len(sizes) == 1 {
				continue
			}
			for place := range len(p) + 1 {
				whole, ok := impl.FairSizes(slices.Insert(slices.Clone(p), place, d))
				for _, m := range sizes {
					if !ok || !slices.Contains(whole, m) {
						t.Error("the pool of a fair die is not fair", p, place, d, m, whole)
					}
					checked++
				}
			}
		}
	}
	if checked < 500 {
		t.Error("few fair dice", checked)
	}
}

func TestRemaindersThatAreNotValid(t *testing.T) {
	for _, p := range noPools() {
		for _, m := range []int{0, 1, 2, 6, 40, 41} {
			if got, ok := impl.ModTable(p, m); ok || len(got) != 0 {
				t.Error("ModTable", p, m, got, ok)
			}
		}
		if got, ok := impl.FairSizes(p); ok || len(got) != 0 {
			t.Error("FairSizes", p, got, ok)
		}
	}
	for _, p := range []pool{{ordinary}, {alone(0)}, {ordinary, ordinary, ordinary, ordinary}} {
		for _, m := range otherNumbers(1, 40) {
			if got, ok := impl.ModTable(p, m); ok || len(got) != 0 {
				t.Error("ModTable", p, m, got, ok)
			}
		}
	}
}

func TestRoomForBits(t *testing.T) {
	lists, two := big.NewInt(1), big.NewInt(2)
	for n := range 21 {
		got, ok := impl.RoomForBits(n)
		if !ok || got < 0 {
			t.Fatal("RoomForBits", n, got, ok)
		}
		room := new(big.Int).Exp(two, big.NewInt(int64(got)), nil)
		if room.Cmp(lists) > 0 || room.Mul(room, two).Cmp(lists) <= 0 {
			t.Error("RoomForBits", n, got, lists)
		}
		lists.Mul(lists, big.NewInt(6))
	}
	for n, want := range map[int]int{0: 0, 1: 2, 2: 5, 3: 7, 4: 10, 5: 12, 6: 15, 12: 31, 19: 49, 20: 51} {
		if got, ok := impl.RoomForBits(n); !ok || got != want {
			t.Error("RoomForBits", n, got, ok)
		}
	}
	for _, n := range append(otherNumbers(0, 20), 24, 25, 63, 64) {
		if got, ok := impl.RoomForBits(n); ok || got != 0 {
			t.Error("RoomForBits", n, got, ok)
		}
	}
}

func TestArgumentsAreLeftByChapter9(t *testing.T) {
	row := someNumbers(905)
	whole := pool{ordinary, {0, 6, 12, 18, 24, 30}, alone(3), {1, 2, 2, 3, 3, 4}, {6, 5, 4, 3, 2, 1}, alone(-1)}
	kept := copyOf(whole)
	for _, list := range [][]int{row.someBelow(42, 6), row.someBelow(42, 2), {5, -1, 6, math.MaxInt, 0, 1, 2, math.MinInt}} {
		before := slices.Clone(list)
		for size := range len(list) + 1 {
			part := list[:size]
			impl.NumberOfThrows(part)
			impl.BitsOf(part)
			impl.ThrowsOf(part)
			for n := -1; n <= 7; n++ {
				impl.MakeNumber(n, part)
				impl.MakeList(5, n, part)
				impl.EvenCoin(part, n)
			}
			if !slices.Equal(list, before) {
				t.Fatal("the list became", list, before)
			}
		}
	}
	for size := range len(whole) + 1 {
		for m := -1; m <= 42; m++ {
			impl.ModTable(whole[:size], m)
		}
		impl.FairSizes(whole[:size])
		if !reflect.DeepEqual(whole, kept) {
			t.Fatal("the pool became", whole)
		}
	}
}

func TestResultsOfChapter9AreNew(t *testing.T) {
	row := someNumbers(906)
	throws, bits, p := row.someBelow(40, 6), row.someBelow(40, 2), pool{ordinary, ordinary}
	all := func() [][]int {
		made, _, _ := impl.MakeList(6, 1, throws)
		ofThrows, _ := impl.BitsOf(throws)
		ofBits, _, _ := impl.ThrowsOf(bits)
		coins, _, _ := impl.EvenCoin(throws, 3)
		table, _ := impl.ModTable(p, 40)
		sizes, _ := impl.FairSizes(p)
		return [][]int{made, ofThrows, ofBits, coins, table, sizes}
	}
	wanted := all()
	for i, list := range wanted {
		wanted[i] = slices.Clone(list)
	}
	if !shareNothing(slices.Concat(all(), all(), [][]int{slices.Clip(throws), slices.Clip(bits)})) {
		t.Error("lists of chapter 9 share memory")
	}
	row = someNumbers(906)
	if throws, bits = row.someBelow(40, 6), row.someBelow(40, 2); !sameLists(all(), wanted) {
		t.Error("chapter 9 keeps what it has returned", all(), wanted)
	}
}
