package tests

import (
	"math"
	"math/big"
	"reflect"
	"slices"
	"testing"

	"loop.example/g01210/impl"
)

type pattern = [4]int

// manyNumbers are numbers far from those that a function takes.
var manyNumbers = []int{-1, -2, -4, -1 << 32, 1 << 32, 1<<32 + 1, math.MinInt, math.MinInt + 1, math.MinInt + 4, math.MaxInt - 4, math.MaxInt}

// fullPools are those of somePools, and pools whose rolls have few patterns, or all.
func fullPools() []pool {
	return append(somePools(),
		pool{alone(1), alone(1)}, pool{alone(1), alone(2)}, pool{alone(2), alone(2), alone(2)}, pool{alone(0), alone(30), alone(0)},
		pool{alone(3), alone(2), alone(1)}, pool{alone(1), alone(1), alone(2), alone(2)}, pool{alone(2), alone(1), alone(1), alone(1)},
		pool{alone(1), alone(2), alone(3), alone(1)}, pool{alone(1), alone(2), alone(3), alone(4)}, pool{alone(0), ordinary, alone(1), ordinary},
		pool{{0, 0, 0, 30, 30, 30}, {0, 0, 0, 30, 30, 30}, {0, 30, 30, 30, 30, 30}, {0, 0, 0, 0, 0, 30}},
		pool{{0, 0, 0, 1, 1, 1}, {1, 1, 1, 2, 2, 2}, {2, 2, 2, 3, 3, 3}}, pool{ordinary, {25, 26, 27, 28, 29, 30}, ordinary, {25, 26, 27, 28, 29, 30}})
}

// descending returns the faces of a roll in descending order.
func descending(roll []int) []int {
	sorted := slices.Clone(roll)
	slices.SortFunc(sorted, func(a, b int) int { return b - a })
	return sorted
}

// patternFor tells the pattern of a roll by the document's words.
func patternFor(roll []int) pattern {
	counts := map[int]int{}
	for _, face := range roll {
		counts[face]++
	}
	var numbers []int
	for _, count := range counts {
		numbers = append(numbers, count)
	}
	var kind pattern
	copy(kind[:], descending(numbers))
	return kind
}

// isBetter compares patterns by the document's words.
func isBetter(a, b pattern) bool {
	for i := range a {
		if a[i] != b[i] {
			return a[i] > b[i]
		}
	}
	return false
}

func TestKeptSumsAgainstAllOutcomes(t *testing.T) {
	for _, p := range fullPools() {
		all := outcomes(p)
		for k := 1; k <= len(p); k++ {
			var want [121]int
			total := 0
			eachRoll(p, func(roll []int) {
				sum := sumOf(descending(roll)[:k])
				want[sum]++
				total += sum
			})
			if got, ok := impl.KeepTable(p, k); !ok || got != want {
				t.Fatal("KeepTable", p, k, got, ok)
			}
			if got, ok := impl.DropTable(p, len(p)-k); !ok || got != want {
				t.Fatal("DropTable", p, len(p)-k, got, ok)
			}
			if got, ok := impl.MeanKept(p, k); !ok || got != fraction(ratio(total, all)) {
				t.Fatal("MeanKept", p, k, got, ok)
			}
			if sumOf(want[:]) != all {
				t.Fatal("the kept sums are not all outcomes", p, k)
			}
		}
	}
}

func TestKeptSumsOfAllPlacesAreTheSums(t *testing.T) {
	for _, p := range fullPools() {
		sums, _ := impl.SumTable(p)
		mean, _ := impl.MeanOf(p)
		if got, ok := impl.KeepTable(p, len(p)); !ok || got != sums {
			t.Error("KeepTable of all", p, got, ok)
		}
		if got, ok := impl.DropTable(p, 0); !ok || got != sums {
			t.Error("DropTable of none", p, got, ok)
		}
		if got, ok := impl.MeanKept(p, len(p)); !ok || got != mean {
			t.Error("MeanKept of all", p, got, ok)
		}
	}
}

func TestPlacesAgainstAllOutcomes(t *testing.T) {
	for _, p := range fullPools() {
		all := outcomes(p)
		together := new(big.Rat)
		for place := 1; place <= len(p); place++ {
			var want [31]int
			total := 0
			eachRoll(p, func(roll []int) {
				face := descending(roll)[place-1]
				want[face]++
				total += face
			})
			if got, ok := impl.PlaceTable(p, place); !ok || got != want {
				t.Fatal("PlaceTable", p, place, got, ok)
			}
			got, ok := impl.MeanPlace(p, place)
			if !ok || got != fraction(ratio(total, all)) {
				t.Fatal("MeanPlace", p, place, got, ok)
			}
			together.Add(together, asRatio(t, got))
			if kept, ok := impl.MeanKept(p, place); !ok || kept != fraction(together) {
				t.Fatal("MeanKept is not the means of the places together", p, place, kept, ok)
			}
		}
		if mean, _ := impl.MeanOf(p); mean != fraction(together) {
			t.Error("the means of the places are not the mean of the sum", p, mean, together)
		}
	}
}

func TestKnownPlaces(t *testing.T) {
	four := pool{ordinary, ordinary, ordinary, ordinary}
	if table, ok := impl.KeepTable(four, 3); !ok || table[18] != 21 || table[3] != 1 || table[13] != 172 {
		t.Error("three of four", table, ok)
	}
	if table, ok := impl.DropTable(four, 1); !ok || table[18] != 21 || table[3] != 1 || table[13] != 172 {
		t.Error("four but the least", table, ok)
	}
	if got, ok := impl.MeanKept(four, 3); !ok || got != [2]int{15869, 1296} {
		t.Error("the mean of three of four", got, ok)
	}
	greatest := pool{alone(30), alone(30), alone(30), alone(30)}
	if table, ok := impl.KeepTable(greatest, 4); !ok || table != [121]int{120: 1296} {
		t.Error("the greatest sum", table, ok)
	}
	if table, ok := impl.PlaceTable(greatest, 4); !ok || table != [31]int{30: 1296} {
		t.Error("the greatest place", table, ok)
	}
	zero := pool{alone(0)}
	if table, ok := impl.KeepTable(zero, 1); !ok || table != [121]int{0: 6} {
		t.Error("one die with 0 alone", table, ok)
	}
	if got, ok := impl.MeanPlace(zero, 1); !ok || got != [2]int{0, 1} {
		t.Error("the mean of 0", got, ok)
	}
	if got, ok := impl.MeanPlace(pool{{0, 0, 0, 30, 30, 30}}, 1); !ok || got != [2]int{15, 1} {
		t.Error("the mean of one die", got, ok)
	}
}

func TestOtherPlaces(t *testing.T) {
	for _, p := range fullPools() {
		for _, k := range append([]int{0, len(p) + 1, 5, 6, 120}, manyNumbers...) {
			if got, ok := impl.KeepTable(p, k); ok || got != [121]int{} {
				t.Error("KeepTable", p, k, got, ok)
			}
			if got, ok := impl.MeanKept(p, k); ok || got != [2]int{} {
				t.Error("MeanKept", p, k, got, ok)
			}
			if got, ok := impl.PlaceTable(p, k); ok || got != [31]int{} {
				t.Error("PlaceTable", p, k, got, ok)
			}
			if got, ok := impl.MeanPlace(p, k); ok || got != [2]int{} {
				t.Error("MeanPlace", p, k, got, ok)
			}
			if k == 0 {
				k = len(p)
			}
			if got, ok := impl.DropTable(p, k); ok || got != [121]int{} {
				t.Error("DropTable", p, k, got, ok)
			}
		}
	}
}

// hitsFor counts the outcomes in which each number of dice hits a bound.
func hitsFor(p pool, bound int) [5]int {
	var ways [5]int
	eachRoll(p, func(roll []int) {
		hits := 0
		for _, face := range roll {
			if face >= bound {
				hits++
			}
		}
		ways[hits]++
	})
	return ways
}

func TestHitsAgainstAllOutcomes(t *testing.T) {
	for _, p := range fullPools() {
		all := outcomes(p)
		for bound := 0; bound <= 31; bound++ {
			want := hitsFor(p, bound)
			if got, ok := impl.HitTable(p, bound); !ok || got != want {
				t.Fatal("HitTable", p, bound, got, ok)
			}
			if sumOf(want[:]) != all {
				t.Fatal("the hits are not all outcomes", p, bound)
			}
			for k := range 5 {
				if got, ok := impl.ChanceHits(p, bound, k); !ok || got != fraction(ratio(sumOf(want[k:]), all)) {
					t.Fatal("ChanceHits", p, bound, k, got, ok)
				}
			}
		}
		var every, none [5]int
		every[len(p)], none[0] = all, all
		if got, ok := impl.HitTable(p, 0); !ok || got != every {
			t.Error("all dice hit the bound 0", p, got, ok)
		}
		if got, ok := impl.HitTable(p, 31); !ok || got != none {
			t.Error("no die hits the bound 31", p, got, ok)
		}
	}
}

func TestOtherBoundsAndHits(t *testing.T) {
	for _, p := range fullPools() {
		for _, bound := range append([]int{32, 33, 120}, manyNumbers...) {
			if got, ok := impl.HitTable(p, bound); ok || got != [5]int{} {
				t.Error("HitTable", p, bound, got, ok)
			}
			for k := -1; k <= 5; k++ {
				if got, ok := impl.ChanceHits(p, bound, k); ok || got != [2]int{} {
					t.Error("ChanceHits", p, bound, k, got, ok)
				}
			}
		}
		for _, k := range append([]int{5, 6, 31}, manyNumbers...) {
			for _, bound := range []int{0, 1, 30, 31} {
				if got, ok := impl.ChanceHits(p, bound, k); ok || got != [2]int{} {
					t.Error("ChanceHits", p, bound, k, got, ok)
				}
			}
		}
	}
}

// reachedFor counts for each bound and k the outcomes in which at least k dice hit the bound.
func reachedFor(p pool) [32][5]int {
	var reached [32][5]int
	for bound := range reached {
		reached[bound][0] = outcomes(p)
	}
	eachRoll(p, func(roll []int) {
		for i, face := range descending(roll) {
			for bound := range face + 1 {
				reached[bound][i+1]++
			}
		}
	})
	return reached
}

func TestBoundForAgainstAllBounds(t *testing.T) {
	row := someNumbers(9)
	for _, p := range fullPools() {
		all, reached := outcomes(p), reachedFor(p)
		wanted := [][2]int{{0, 1}, {1, 1}, {0, 1000}, {1, 1000}, {999, 1000}, {1000, 1000}, {1, 2}, {1, 6}, {5, 6}, {1, 36}, {35, 36}, {216, 1000}}
		for bound := range reached {
			for _, number := range reached[bound] {
				// Just the chance, and ones that are hardly greater and hardly less.
				if f := fraction(ratio(number, all)); f[1] <= 1000 && !slices.Contains(wanted, f) {
					top, bottom := 1000/f[1]*f[0], 1000/f[1]*f[1]
					wanted = append(wanted, f, [2]int{min(top+1, bottom), bottom}, [2]int{max(top-1, 0), bottom})
				}
			}
		}
		for range 20 {
			bottom := 1 + row.below(1000)
			wanted = append(wanted, [2]int{row.below(bottom + 1), bottom})
		}
		for _, f := range wanted {
			for k := 1; k <= 4; k++ {
				want := 31
				for want >= 0 && reached[want][k]*f[1] < f[0]*all {
					want--
				}
				fine := want >= 0
				if got, ok := impl.BoundFor(p, k, f[0], f[1]); ok != fine || got != max(want, 0) {
					t.Fatal("BoundFor", p, k, f, got, ok)
				}
			}
		}
	}
}

func TestBoundForAtItsEdges(t *testing.T) {
	two := pool{ordinary, alone(0)}
	cases := []struct {
		k, top, bottom int
		bound          int
		ok             bool
	}{
		{1, 1, 6, 6, true}, {1, 167, 1000, 5, true}, {1, 166, 1000, 6, true}, {1, 1, 1, 1, true}, {2, 1, 1, 0, true}, {2, 1, 1000, 0, true},
		{2, 0, 1, 31, true}, {1, 0, 1000, 31, true}, {3, 0, 7, 31, true}, {4, 0, 1, 31, true}, {3, 1, 1000, 0, false}, {4, 1, 1, 0, false},
		{0, 0, 1, 0, false}, {0, 1, 2, 0, false}, {5, 0, 1, 0, false}, {5, 1, 2, 0, false}, {1, 2, 1, 0, false}, {1, -1, 1, 0, false},
		{1, 0, 0, 0, false}, {1, 1, 0, 0, false}, {1, 0, 1001, 0, false}, {1, 1, 1001, 0, false}, {1, -2, -1, 0, false}, {1, -1, -2, 0, false},
		{1, 1001, 1000, 0, false}, {1, 0, -1, 0, false}, {1, math.MinInt, 1, 0, false}, {1, 1, math.MaxInt, 0, false},
		{1, math.MaxInt, math.MaxInt, 0, false}, {1, math.MinInt, math.MinInt, 0, false}, {1, math.MaxInt, 1000, 0, false},
		{math.MaxInt, 0, 1, 0, false}, {math.MinInt, 0, 1, 0, false}, {-1, 0, 1, 0, false}, {1 << 32, 0, 1, 0, false}, {1<<32 + 1, 0, 1, 0, false},
	}
	for _, c := range cases {
		if got, ok := impl.BoundFor(two, c.k, c.top, c.bottom); ok != c.ok || got != c.bound {
			t.Error("BoundFor", c, got, ok)
		}
	}
	if got, ok := impl.BoundFor(pool{alone(30)}, 1, 1, 1); !ok || got != 30 {
		t.Error("BoundFor the greatest face", got, ok)
	}
}

// somePatterns are all arrays with numbers from -1 to 5, and some with others.
func somePatterns() []pattern {
	var patterns []pattern
	for n := range 7 * 7 * 7 * 7 {
		patterns = append(patterns, pattern{n/343 - 1, n/49%7 - 1, n/7%7 - 1, n%7 - 1})
	}
	return append(patterns, pattern{math.MaxInt, 0, 0, 0}, pattern{math.MaxInt, math.MaxInt, 4, 0}, pattern{math.MaxInt, math.MaxInt, 3, 3},
		pattern{math.MaxInt, math.MaxInt, 3, 0}, pattern{math.MaxInt, 2, 2, math.MinInt + 1}, pattern{1 << 62, 1 << 62, 1 << 62, 1 << 62},
		pattern{1<<62 + 1, 1 << 62, 1 << 62, 1 << 62}, pattern{1 << 62, 1 << 62, 1 << 62, 1<<62 + 1}, pattern{1<<62 + 1, 1<<62 + 1, 1 << 62, 1 << 62},
		pattern{1<<62 + 1, 1<<62 + 1, 1<<62 + 1, 1<<62 + 1}, pattern{math.MinInt, math.MinInt, 2, 2}, pattern{6, -1, -1, 0}, pattern{6, 0, 0, -2},
		pattern{1 << 32, 0, 0, 0}, pattern{1<<32 + 1, 0, 0, 0})
}

// isValid tells by the document's words whether a pattern is valid for so many dice.
func isValid(kind pattern, dice int) bool {
	sum := 0
	for i, number := range kind {
		if number < 0 || number > dice || i > 0 && number > kind[i-1] {
			return false
		}
		sum += number
	}
	return sum == dice
}

func TestPatternsAgainstAllOutcomes(t *testing.T) {
	patterns := somePatterns()
	for _, p := range fullPools() {
		all := outcomes(p)
		ways := map[pattern]int{}
		number := 0
		eachRoll(p, func(roll []int) {
			want := patternFor(roll)
			if got, ok := impl.PatternOf(p, number); !ok || got != want {
				t.Fatal("PatternOf", p, number, got, ok)
			}
			ways[want]++
			number++
		})
		var list []pattern
		for _, kind := range patterns {
			if ways[kind] > 0 {
				list = append(list, kind)
			}
			if isValid(kind, len(p)) {
				better := 0
				for other, count := range ways {
					if isBetter(other, kind) {
						better += count
					}
				}
				if got, ok := impl.WaysOfPattern(p, kind); !ok || got != ways[kind] {
					t.Fatal("WaysOfPattern", p, kind, got, ok)
				}
				if got, ok := impl.ChanceBetter(p, kind); !ok || got != fraction(ratio(better, all)) {
					t.Fatal("ChanceBetter", p, kind, got, ok)
				}
			}
		}
		slices.Reverse(list)
		if got, ok := impl.PatternsOf(p); !ok || !slices.Equal(got, list) {
			t.Fatal("PatternsOf", p, got, ok)
		}
		for _, other := range append([]int{all, all + 1, 1296, 7776}, manyNumbers...) {
			if got, ok := impl.PatternOf(p, other); ok || got != (pattern{}) {
				t.Error("PatternOf", p, other, got, ok)
			}
		}
	}
}

func TestPatternsPartAllOutcomes(t *testing.T) {
	for _, p := range fullPools() {
		list, ok := impl.PatternsOf(p)
		if !ok || len(list) == 0 {
			t.Fatal("PatternsOf", p, list, ok)
		}
		all := 0
		for i, kind := range list {
			ways, ok := impl.WaysOfPattern(p, kind)
			if !ok || ways < 1 {
				t.Error("WaysOfPattern", p, kind, ways, ok)
			}
			if better, ok := impl.ChanceBetter(p, kind); !ok || better != fraction(ratio(all, outcomes(p))) {
				t.Error("ChanceBetter", p, kind, better, ok)
			}
			if i > 0 && !isBetter(list[i-1], kind) {
				t.Error("the patterns have no order", p, list)
			}
			all += ways
		}
		if all != outcomes(p) {
			t.Error("the patterns do not part all outcomes", p, list, all)
		}
	}
}

func TestPatternsThatAreNotValid(t *testing.T) {
	pools := []pool{{ordinary}, {alone(0)}, {ordinary, ordinary}, {alone(1), alone(2)}, {ordinary, ordinary, ordinary}, {alone(1), alone(1), alone(1), alone(1)}}
	for _, p := range pools {
		valid := 0
		for _, kind := range somePatterns() {
			if isValid(kind, len(p)) {
				valid++
				continue
			}
			if got, ok := impl.WaysOfPattern(p, kind); ok || got != 0 {
				t.Error("WaysOfPattern", p, kind, got, ok)
			}
			if got, ok := impl.ChanceBetter(p, kind); ok || got != [2]int{} {
				t.Error("ChanceBetter", p, kind, got, ok)
			}
		}
		if valid != [5]int{0, 1, 2, 3, 5}[len(p)] {
			t.Error("so many patterns are valid", p, valid)
		}
	}
}

func TestKnownPatterns(t *testing.T) {
	four := pool{ordinary, ordinary, ordinary, ordinary}
	list := []pattern{{4, 0, 0, 0}, {3, 1, 0, 0}, {2, 2, 0, 0}, {2, 1, 1, 0}, {1, 1, 1, 1}}
	if got, ok := impl.PatternsOf(four); !ok || !slices.Equal(got, list) {
		t.Error("PatternsOf", got, ok)
	}
	for i, want := range []int{6, 120, 90, 720, 360} {
		if got, ok := impl.WaysOfPattern(four, list[i]); !ok || got != want {
			t.Error("WaysOfPattern", list[i], got, ok)
		}
	}
	pairs := pool{alone(1), alone(2), alone(2), alone(1)}
	if got, ok := impl.PatternOf(pairs, 1295); !ok || got != (pattern{2, 2, 0, 0}) {
		t.Error("two pairs", got, ok)
	}
	if got, ok := impl.ChanceBetter(pairs, pattern{2, 1, 1, 0}); !ok || got != [2]int{1, 1} {
		t.Error("two pairs are better than one", got, ok)
	}
	if got, ok := impl.ChanceBetter(pairs, pattern{2, 2, 0, 0}); !ok || got != [2]int{0, 1} {
		t.Error("two pairs are not better than two pairs", got, ok)
	}
	if got, ok := impl.WaysOfPattern(pairs, pattern{4, 0, 0, 0}); !ok || got != 0 {
		t.Error("no four of a kind", got, ok)
	}
}

func TestMeanDistinct(t *testing.T) {
	for _, p := range fullPools() {
		want := mean(p, func(roll []int) *big.Rat {
			faces := map[int]bool{}
			for _, face := range roll {
				faces[face] = true
			}
			return ratio(len(faces), 1)
		})
		if got, ok := impl.MeanDistinct(p); !ok || got != fraction(want) {
			t.Error("MeanDistinct", p, got, ok)
		}
	}
	cases := []struct {
		p    pool
		want [2]int
	}{
		{pool{ordinary}, [2]int{1, 1}}, {pool{alone(0), alone(0), alone(0), alone(0)}, [2]int{1, 1}}, {pool{ordinary, ordinary}, [2]int{11, 6}},
		{pool{alone(1), alone(2), alone(3), alone(4)}, [2]int{4, 1}}, {pool{ordinary, ordinary, ordinary}, [2]int{91, 36}},
	}
	for _, c := range cases {
		if got, ok := impl.MeanDistinct(c.p); !ok || got != c.want {
			t.Error("MeanDistinct", c.p, got, ok)
		}
	}
}

func TestPlacesOfNoPools(t *testing.T) {
	for _, p := range noPools() {
		for _, k := range []int{0, 1, 2, 4, -1, len(p)} {
			if got, ok := impl.KeepTable(p, k); ok || got != [121]int{} {
				t.Error("KeepTable", p, k, got, ok)
			}
			if got, ok := impl.DropTable(p, k); ok || got != [121]int{} {
				t.Error("DropTable", p, k, got, ok)
			}
			if got, ok := impl.MeanKept(p, k); ok || got != [2]int{} {
				t.Error("MeanKept", p, k, got, ok)
			}
			if got, ok := impl.PlaceTable(p, k); ok || got != [31]int{} {
				t.Error("PlaceTable", p, k, got, ok)
			}
			if got, ok := impl.MeanPlace(p, k); ok || got != [2]int{} {
				t.Error("MeanPlace", p, k, got, ok)
			}
			if got, ok := impl.HitTable(p, k); ok || got != [5]int{} {
				t.Error("HitTable", p, k, got, ok)
			}
			if got, ok := impl.ChanceHits(p, 3, k); ok || got != [2]int{} {
				t.Error("ChanceHits", p, k, got, ok)
			}
			if got, ok := impl.BoundFor(p, k, 0, 1); ok || got != 0 {
				t.Error("BoundFor", p, k, got, ok)
			}
			if got, ok := impl.PatternOf(p, k); ok || got != (pattern{}) {
				t.Error("PatternOf", p, k, got, ok)
			}
		}
		for _, kind := range []pattern{{}, {1, 0, 0, 0}, {2, 0, 0, 0}, {1, 1, 0, 0}, {2, 2, 0, 0}, {2, 2, 1, 0}, {5, 0, 0, 0}} {
			if got, ok := impl.WaysOfPattern(p, kind); ok || got != 0 {
				t.Error("WaysOfPattern", p, kind, got, ok)
			}
			if got, ok := impl.ChanceBetter(p, kind); ok || got != [2]int{} {
				t.Error("ChanceBetter", p, kind, got, ok)
			}
		}
		if got, ok := impl.PatternsOf(p); ok || len(got) != 0 {
			t.Error("PatternsOf", p, got, ok)
		}
		if got, ok := impl.MeanDistinct(p); ok || got != [2]int{} {
			t.Error("MeanDistinct", p, got, ok)
		}
	}
}

func TestPoolsAreLeftByChapter4(t *testing.T) {
	whole := pool{{3, 4, 5, 6, 7, 8}, ordinary, {1, 2, 2, 3, 3, 4}, ordinary, alone(9), {6, 5, 4, 3, 2, 1}}
	kept := copyOf(whole)
	for size := range len(whole) + 1 {
		p := whole[:size]
		for k := range 5 {
			impl.KeepTable(p, k)
			impl.DropTable(p, k)
			impl.MeanKept(p, k)
			impl.PlaceTable(p, k)
			impl.MeanPlace(p, k)
			impl.HitTable(p, k)
			impl.ChanceHits(p, 4, k)
			impl.BoundFor(p, k, 1, 2)
			impl.PatternOf(p, k)
		}
		impl.WaysOfPattern(p, pattern{min(size, 4), 0, 0, 0})
		impl.ChanceBetter(p, pattern{min(size, 4), 0, 0, 0})
		impl.MeanDistinct(p)
		first, _ := impl.PatternsOf(p)
		second, _ := impl.PatternsOf(p)
		wanted := slices.Clone(second)
		first = first[:cap(first)]
		for i := range first {
			first[i] = pattern{9, 9, 9, 9}
		}
		if !reflect.DeepEqual(second, wanted) {
			t.Fatal("two lists of patterns share memory", p)
		}
		if !reflect.DeepEqual(whole, kept) {
			t.Fatal("the dice became", whole)
		}
	}
}
