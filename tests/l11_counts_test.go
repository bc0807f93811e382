package tests

import (
	"math"
	"math/big"
	"reflect"
	"slices"
	"testing"

	"loop.example/g01210/impl"
)

// countsFor tells how often each number of a die is in a list, and whether all of the list are
// such numbers.
func countsFor(d die, rolls []int) ([]int, bool) {
	var counts []int
	all := 0
	for _, number := range facesOf(d) {
		count := 0
		for _, roll := range rolls {
			if roll == number {
				count++
			}
		}
		counts = append(counts, count)
		all += count
	}
	return counts, all == len(rolls)
}

// rollsWith returns the rolls that have some counts, in ascending order.
func rollsWith(d die, counts []int) []int {
	var rolls []int
	for i, number := range facesOf(d) {
		rolls = append(rolls, repeated(counts[i], number)...)
	}
	return rolls
}

// counted are all counts of n rolls of a die, in order, with their ways and distances.
type counted struct {
	d         die
	n         int
	vectors   [][]int
	ways      []int
	distances []*big.Rat
}

// newCounted rolls a die n times, and keeps after each roll in how many ways each counts came.
func newCounted(d die, n int) counted {
	numbers := facesOf(d)
	came := map[die]int{{}: 1}
	for range n {
		next := map[die]int{}
		for counts, ways := range came {
			for _, face := range d {
				more := counts
				more[slices.Index(numbers, face)]++
				next[more] += ways
			}
		}
		came = next
	}
	c := counted{d: d, n: n}
	for counts := range came {
		c.vectors = append(c.vectors, slices.Clone(counts[:len(numbers)]))
	}
	slices.SortFunc(c.vectors, slices.Compare[[]int])
	for _, counts := range c.vectors {
		var key die
		copy(key[:], counts)
		c.ways = append(c.ways, came[key])
		c.distances = append(c.distances, distanceFor(d, counts))
	}
	return c
}

// outcomes tells how many lists of n throws there are.
func (c counted) outcomes() int {
	all := 1
	for range c.n {
		all *= 6
	}
	return all
}

// chance tells the chance that it is so for the counts with an index.
func (c counted) chance(isSo func(i int) bool) [2]int {
	ways := 0
	for i := range c.vectors {
		if isSo(i) {
			ways += c.ways[i]
		}
	}
	return fraction(ratio(ways, c.outcomes()))
}

// some returns the indices of a few counts: the first and the last ones, those with the least and
// the greatest ways and distance, and others without a pattern.
func (c counted) some() []int {
	last := len(c.vectors) - 1
	places := []int{0, last, last / 2, slices.Index(c.ways, slices.Min(c.ways)), slices.Index(c.ways, slices.Max(c.ways))}
	near, far := 0, 0
	for i, distance := range c.distances {
		if distance.Cmp(c.distances[near]) < 0 {
			near = i
		}
		if distance.Cmp(c.distances[far]) > 0 {
			far = i
		}
	}
	places = append(places, near, far)
	row := someNumbers(1100 + c.n)
	for range 6 {
		places = append(places, row.below(last+1))
	}
	return places
}

// distanceFor tells the distance of counts as it is defined.
func distanceFor(d die, counts []int) *big.Rat {
	distance, n := new(big.Rat), sumOf(counts)
	if n == 0 {
		return distance
	}
	for i, number := range facesOf(d) {
		wanted := ratio(n*waysFor(d, number), 6)
		difference := new(big.Rat).Sub(ratio(counts[i], 1), wanted)
		difference.Mul(difference, difference)
		distance.Add(distance, difference.Quo(difference, wanted))
	}
	return distance
}

// counters are dice with one to six numbers.
func counters() []die {
	row := someNumbers(1101)
	return []die{ordinary, alone(0), alone(7), alone(30), coin, loads, wide, {0, 0, 0, 0, 0, 30}, {1, 1, 2, 2, 3, 3}, {1, 2, 2, 3, 3, 4}, {1, 1, 1, 2, 2, 3}, {1, 1, 2, 3, 4, 4}, {2, 3, 3, 3, 3, 30},
		{0, 6, 12, 18, 24, 30}, {1, 2, 3, 4, 5, 5}, {0, 0, 1, 2, 3, 4}, {1, 1, 1, 2, 3, 4}, row.someDie(30), row.someDie(6), row.someDie(3)}
}

// noCounts are lists that are no counts of a die.
func noCounts(d die) [][]int {
	size := len(facesOf(d))
	lists := [][]int{make([]int, size+1), make([]int, size-1), make([]int, 7), make([]int, 31), make([]int, 1<<20), repeated(1, slices.Repeat([]int{13}, size)...)}
	for place := range size {
		for _, number := range append(otherNumbers(0, 12), 13, 14, 1<<32, 1<<62, -1<<62) {
			list := make([]int, size)
			list[place] = number
			lists = append(lists, list)
			other := slices.Clone(list)
			other[(place+1)%size] += 1 - number
			if size > 1 {
				lists = append(lists, other)
			}
		}
		if size > 1 {
			list := make([]int, size)
			list[place], list[(place+1)%size] = 12, 1
			lists = append(lists, list)
			// Sums that are right only as they overflow.
			over := make([]int, size)
			over[place], over[(place+1)%size] = math.MinInt, math.MinInt
			lists = append(lists, over)
			if size > 2 {
				most := make([]int, size)
				most[place], most[(place+1)%size], most[(place+2)%size] = math.MaxInt, math.MaxInt, 4
				lists = append(lists, most)
			}
		}
	}
	return lists
}

func TestCountLimits(t *testing.T) {
	if impl.MaxSeen != 12 || impl.MaxTested != 8 {
		t.Error("limits", impl.MaxSeen, impl.MaxTested)
	}
}

func checkRolls(t *testing.T, d die, rolls []int) {
	t.Helper()
	want, isSo := countsFor(d, rolls)
	if len(rolls) > 12 || !isSo {
		isSo, want = false, nil
	}
	if got, ok := impl.CountRolls(d, rolls); ok != isSo || !slices.Equal(got, want) {
		t.Error("CountRolls", d, rolls, got, ok, want)
	}
}

func TestCountRollsAgainstAllRolls(t *testing.T) {
	row := someNumbers(1102)
	for _, d := range waiters() {
		for n := range 5 {
			eachRow(d, n, func(rolls []int, _ int) { checkRolls(t, d, rolls) })
		}
		for n := 5; n <= 14; n++ {
			var rolls []int
			for range n {
				rolls = append(rolls, d[row.below(6)])
			}
			checkRolls(t, d, rolls)
			for _, number := range []int{0, 1, 4, 15, 30, -1, 31, math.MaxInt, math.MinInt, d[0] - 1, d[5] + 1, d[0] + 1<<32} {
				place := row.below(n)
				kept := rolls[place]
				rolls[place] = number
				checkRolls(t, d, rolls)
				rolls[place] = kept
			}
		}
		checkRolls(t, d, nil)
		checkRolls(t, d, []int{})
		checkRolls(t, d, repeated(12, d[0]))
		checkRolls(t, d, repeated(13, d[0]))
		checkRolls(t, d, repeated(1000, d[5]))
	}
}

func TestKnownCountsOfRolls(t *testing.T) {
	cases := []struct {
		d     die
		rolls []int
		want  []int
		ok    bool
	}{
		{ordinary, nil, []int{0, 0, 0, 0, 0, 0}, true}, {alone(7), nil, []int{0}, true}, {coin, []int{}, []int{0, 0}, true}, {coin, []int{1, 2, 1}, []int{2, 1}, true}, {coin, []int{2, 2, 2}, []int{0, 3}, true},
		{ordinary, []int{6, 1, 1, 3, 6, 6}, []int{2, 0, 1, 0, 0, 3}, true}, {wide, []int{30, 0, 30, 5}, []int{1, 1, 2}, true}, {alone(30), repeated(12, 30), []int{12}, true}, {alone(30), repeated(13, 30), nil, false},
		{coin, []int{3}, nil, false}, {coin, []int{1, 2, 0}, nil, false}, {coin, []int{1, 2, -1}, nil, false}, {wide, []int{0, 5, 31}, nil, false}, {ordinary, repeated(2, 1, 2, 3, 4, 5, 6), []int{2, 2, 2, 2, 2, 2}, true},
		{ordinary, append(repeated(2, 1, 2, 3, 4, 5, 6), 1), nil, false}, {alone(0), []int{0, 0, 1}, nil, false}, {die{6, 5, 4, 3, 2, 1}, []int{1}, nil, false}, {alone(31), []int{31}, nil, false}, {alone(-1), nil, nil, false},
	}
	for _, c := range cases {
		if got, ok := impl.CountRolls(c.d, c.rolls); ok != c.ok || !slices.Equal(got, c.want) {
			t.Error("CountRolls", c.d, c.rolls, got, ok)
		}
	}
}

func TestChancesOfCountsAgainstAllRolls(t *testing.T) {
	for _, d := range counters() {
		for n := range 13 {
			c := newCounted(d, n)
			for i, counts := range c.vectors {
				likely, ok := impl.LikelihoodOf(d, counts)
				if want := fraction(chanceOfRow(d, rollsWith(d, counts))); !ok || likely != want {
					t.Fatal("LikelihoodOf", d, counts, likely, ok, want)
				}
				chance, ok := impl.ChanceOfCounts(d, counts)
				if want := fraction(ratio(c.ways[i], c.outcomes())); !ok || chance != want {
					t.Fatal("ChanceOfCounts", d, counts, chance, ok, want)
				}
				distance, ok := impl.DistanceOf(d, counts)
				if want := fraction(c.distances[i]); !ok || distance != want {
					t.Fatal("DistanceOf", d, counts, distance, ok, want)
				}
			}
		}
	}
}

func TestKnownChancesOfCounts(t *testing.T) {
	cases := []struct {
		d                        die
		counts                   []int
		likely, chance, distance [2]int
	}{
		{ordinary, []int{0, 0, 0, 0, 0, 0}, [2]int{1, 1}, [2]int{1, 1}, [2]int{0, 1}}, {ordinary, []int{1, 0, 0, 0, 0, 0}, [2]int{1, 6}, [2]int{1, 6}, [2]int{5, 1}}, {ordinary, []int{0, 0, 0, 0, 0, 1}, [2]int{1, 6}, [2]int{1, 6}, [2]int{5, 1}},
		{ordinary, []int{2, 2, 2, 2, 2, 2}, [2]int{1, 2176782336}, [2]int{1925, 559872}, [2]int{0, 1}}, {ordinary, []int{12, 0, 0, 0, 0, 0}, [2]int{1, 2176782336}, [2]int{1, 2176782336}, [2]int{60, 1}},
		{ordinary, []int{1, 1, 1, 1, 1, 1}, [2]int{1, 46656}, [2]int{5, 324}, [2]int{0, 1}}, {ordinary, []int{3, 0, 0, 2, 0, 1}, [2]int{1, 46656}, [2]int{5, 3888}, [2]int{8, 1}}, {ordinary, []int{0, 8, 0, 0, 0, 0}, [2]int{1, 1679616}, [2]int{1, 1679616}, [2]int{40, 1}},
		{coin, []int{0, 0}, [2]int{1, 1}, [2]int{1, 1}, [2]int{0, 1}}, {coin, []int{2, 1}, [2]int{1, 8}, [2]int{3, 8}, [2]int{1, 3}}, {coin, []int{6, 6}, [2]int{1, 4096}, [2]int{231, 1024}, [2]int{0, 1}}, {coin, []int{0, 12}, [2]int{1, 4096}, [2]int{1, 4096}, [2]int{12, 1}},
		{coin, []int{3, 5}, [2]int{1, 256}, [2]int{7, 32}, [2]int{1, 2}}, {loads, []int{1, 0}, [2]int{1, 6}, [2]int{1, 6}, [2]int{5, 1}}, {loads, []int{0, 1}, [2]int{5, 6}, [2]int{5, 6}, [2]int{1, 5}},
		{loads, []int{2, 10}, [2]int{9765625, 2176782336}, [2]int{107421875, 362797056}, [2]int{0, 1}}, {loads, []int{0, 12}, [2]int{244140625, 2176782336}, [2]int{244140625, 2176782336}, [2]int{12, 5}},
		{wide, []int{6, 4, 2}, [2]int{1, 186624}, [2]int{385, 5184}, [2]int{0, 1}}, {wide, []int{1, 2, 3}, [2]int{1, 3888}, [2]int{5, 324}, [2]int{16, 3}}, {wide, []int{4, 3, 1}, [2]int{1, 2592}, [2]int{35, 324}, [2]int{1, 8}},
		{alone(7), []int{0}, [2]int{1, 1}, [2]int{1, 1}, [2]int{0, 1}}, {alone(7), []int{1}, [2]int{1, 1}, [2]int{1, 1}, [2]int{0, 1}}, {alone(0), []int{12}, [2]int{1, 1}, [2]int{1, 1}, [2]int{0, 1}},
	}
	for _, c := range cases {
		likely, ok1 := impl.LikelihoodOf(c.d, c.counts)
		chance, ok2 := impl.ChanceOfCounts(c.d, c.counts)
		distance, ok3 := impl.DistanceOf(c.d, c.counts)
		if !ok1 || !ok2 || !ok3 || likely != c.likely || chance != c.chance || distance != c.distance {
			t.Error("counts", c.d, c.counts, likely, chance, distance)
		}
	}
}

// rowsToCompare are lists of rolls of some dice, with numbers that not all of them have, or none.
func rowsToCompare(seed int, dice ...die) [][]int {
	numbers := []int{0, 30, 17}
	for _, d := range dice {
		numbers = append(numbers, d[:]...)
	}
	rows := [][]int{nil, {}, {0}, {30}, {17}, repeated(12, 17)}
	row := someNumbers(seed)
	for _, d := range dice {
		rows = append(rows, repeated(12, d[5]), repeated(6, d[0], d[5]), d[:], d[1:4])
		for n := 1; n <= 12; n++ {
			var own, any []int
			for range n {
				own = append(own, d[row.below(6)])
				any = append(any, numbers[row.below(len(numbers))])
			}
			rows = append(rows, own, any)
		}
	}
	return rows
}

func TestMoreLikelyAgainstChances(t *testing.T) {
	dice := counters()
	for i, a := range dice {
		for j, b := range dice {
			for _, rolls := range rowsToCompare(1200+20*i+j, a, b) {
				want := chanceOfRow(a, rolls).Cmp(chanceOfRow(b, rolls))
				if got, ok := impl.MoreLikely(a, b, rolls); !ok || got != want {
					t.Fatal("MoreLikely", a, b, rolls, got, ok, want)
				}
			}
		}
	}
}

func TestKnownMoreLikely(t *testing.T) {
	cases := []struct {
		a, b  die
		rolls []int
		want  int
	}{
		{coin, ordinary, []int{1, 2}, 1}, {ordinary, coin, []int{1, 2}, -1}, {coin, coin, []int{1, 2}, 0}, {coin, ordinary, nil, 0}, {coin, ordinary, []int{1, 2, 3}, -1}, {coin, alone(7), []int{3}, 0}, {coin, alone(7), []int{1, 7}, 0},
		{alone(7), coin, []int{1, 7}, 0}, {coin, ordinary, []int{30}, 0}, {alone(0), alone(30), []int{0}, 1}, {alone(0), alone(30), []int{30}, -1}, {loads, coin, []int{1, 2, 2}, -1}, {loads, coin, []int{1, 2, 2, 2}, 1}, {loads, coin, repeated(6, 1, 2), -1},
		{coin, die{4, 4, 4, 5, 5, 5}, []int{0}, 0}, {coin, die{1, 1, 1, 5, 5, 5}, []int{1, 1, 1}, 0}, {alone(2), loads, repeated(12, 2), 1}, {wide, ordinary, repeated(12, 5), 1},
	}
	for _, c := range cases {
		if got, ok := impl.MoreLikely(c.a, c.b, c.rolls); !ok || got != c.want {
			t.Error("MoreLikely", c.a, c.b, c.rolls, got, ok)
		}
	}
}

// whichFor tells the chances of all dice of a pool, and whether there are any.
func whichFor(p pool, weights []int, rolls []int) ([][2]int, bool) {
	var parts []*big.Rat
	whole := new(big.Rat)
	for i, d := range p {
		part := chanceOfRow(d, rolls)
		parts = append(parts, part.Mul(part, ratio(weights[i], 1)))
		whole.Add(whole, part)
	}
	if whole.Sign() == 0 {
		return nil, false
	}
	var chances [][2]int
	for _, part := range parts {
		chances = append(chances, fraction(part.Quo(part, whole)))
	}
	return chances, true
}

func TestWhichDieAgainstChances(t *testing.T) {
	row := someNumbers(1103)
	for i, p := range append(somePools(), pool{coin, coin, coin, coin}, pool{coin, loads, alone(1), alone(2)}, pool{alone(1), alone(2), alone(3), alone(4)}) {
		for _, rolls := range rowsToCompare(2000+i, p...) {
			for _, weights := range [][]int{repeated(len(p), 1), repeated(len(p), 99), make([]int, len(p)), row.someBelow(len(p), 100), row.someBelow(len(p), 2), row.someBelow(len(p), 3)} {
				want, isSo := whichFor(p, weights, rolls)
				got, ok := impl.WhichDie(p, weights, rolls)
				if ok != isSo || !slices.Equal(got, want) {
					t.Fatal("WhichDie", p, weights, rolls, got, ok, want)
				}
				sum := new(big.Rat)
				for _, chance := range got {
					sum.Add(sum, asRatio(t, chance))
				}
				if ok && sum.Cmp(ratio(1, 1)) != 0 {
					t.Fatal("the chances of all dice are not 1 together", p, weights, rolls, got)
				}
			}
		}
	}
}

func TestKnownWhichDie(t *testing.T) {
	cases := []struct {
		p       pool
		weights []int
		rolls   []int
		want    [][2]int
		ok      bool
	}{
		{pool{coin, ordinary}, []int{1, 1}, []int{1}, [][2]int{{3, 4}, {1, 4}}, true}, {pool{ordinary, coin}, []int{1, 2}, []int{1, 1, 2}, [][2]int{{1, 55}, {54, 55}}, true}, {pool{ordinary, coin}, []int{1, 2}, []int{1, 3}, [][2]int{{1, 1}, {0, 1}}, true},
		{pool{ordinary, coin}, []int{0, 2}, []int{1, 3}, nil, false}, {pool{coin, ordinary, loads, wide}, []int{1, 1, 1, 1}, nil, [][2]int{{1, 4}, {1, 4}, {1, 4}, {1, 4}}, true},
		{pool{coin, ordinary, loads, alone(7)}, []int{5, 0, 99, 7}, []int{1, 2, 2}, [][2]int{{3, 58}, {0, 1}, {55, 58}, {0, 1}}, true}, {pool{ordinary, ordinary}, []int{99, 33}, repeated(12, 6), [][2]int{{3, 4}, {1, 4}}, true},
		{pool{coin, loads}, []int{1, 1}, repeated(12, 2), [][2]int{{531441, 244672066}, {244140625, 244672066}}, true}, {pool{alone(7), ordinary}, []int{0, 0}, []int{1}, nil, false}, {pool{alone(7), ordinary}, []int{0, 0}, nil, nil, false}, {pool{wide, alone(7)}, []int{3, 0}, []int{7}, nil, false},
		{pool{wide, alone(7)}, []int{3, 1}, []int{7}, [][2]int{{0, 1}, {1, 1}}, true}, {pool{ordinary}, []int{99}, []int{4}, [][2]int{{1, 1}}, true}, {pool{ordinary}, []int{99}, []int{7}, nil, false}, {pool{ordinary}, []int{0}, []int{4}, nil, false},
		{pool{coin, coin, coin, coin}, []int{99, 99, 99, 99}, repeated(12, 1), [][2]int{{1, 4}, {1, 4}, {1, 4}, {1, 4}}, true}, {pool{alone(0), alone(30)}, []int{1, 99}, []int{0, 30}, nil, false}, {pool{ordinary, coin}, []int{3, 5}, nil, [][2]int{{3, 8}, {5, 8}}, true},
		{pool{alone(0), alone(30), alone(30)}, []int{99, 98, 1}, []int{30}, [][2]int{{0, 1}, {98, 99}, {1, 99}}, true},
	}
	for _, c := range cases {
		if got, ok := impl.WhichDie(c.p, c.weights, c.rolls); ok != c.ok || !slices.Equal(got, c.want) {
			t.Error("WhichDie", c.p, c.weights, c.rolls, got, ok)
		}
	}
}

// whichFails checks that no die can be told.
func whichFails(t *testing.T, p pool, weights, rolls []int) {
	t.Helper()
	if got, ok := impl.WhichDie(p, weights, rolls); ok || len(got) != 0 {
		t.Error("WhichDie", p, weights, rolls, got, ok)
	}
}

// moreFails checks that two dice cannot be compared, in both orders.
func moreFails(t *testing.T, a, b die, rolls []int) {
	t.Helper()
	if got, ok := impl.MoreLikely(a, b, rolls); ok || got != 0 {
		t.Error("MoreLikely", a, b, rolls, got, ok)
	}
	if got, ok := impl.MoreLikely(b, a, rolls); ok || got != 0 {
		t.Error("MoreLikely", b, a, rolls, got, ok)
	}
}

func TestRollsOfNoDie(t *testing.T) {
	lists := [][]int{make([]int, 13), repeated(13, 1), repeated(14, 30), make([]int, 40), make([]int, 41), make([]int, 1<<20), append(repeated(12, 1), -1)}
	for _, number := range append(otherNumbers(0, 30), 31, 32, 99) {
		for _, size := range []int{1, 2, 12} {
			for _, place := range []int{0, size / 2, size - 1} {
				list := repeated(size, 1)
				list[place] = number
				lists = append(lists, list)
			}
		}
	}
	for _, list := range lists {
		moreFails(t, ordinary, coin, list)
		moreFails(t, alone(0), alone(30), list)
		whichFails(t, pool{ordinary, coin}, []int{1, 1}, list)
		whichFails(t, pool{ordinary}, []int{99}, list)
		whichFails(t, pool{alone(0), alone(1), alone(30), ordinary}, []int{1, 2, 3, 0}, list)
		if got, ok := impl.CountRolls(ordinary, list); ok || len(got) != 0 {
			t.Error("CountRolls", list, got, ok)
		}
	}
	for number := range 31 {
		if got, ok := impl.MoreLikely(ordinary, coin, []int{number}); !ok || got != chanceFor(ordinary, number).Cmp(chanceFor(coin, number)) {
			t.Error("MoreLikely", number, got, ok)
		}
	}
}

func TestDiceThatCannotHaveBeenRolled(t *testing.T) {
	for _, d := range noDice() {
		for _, rolls := range [][]int{nil, {1}, {1, 2}, {0}, {30}, {31}, d[:], d[:1]} {
			moreFails(t, d, ordinary, rolls)
			moreFails(t, d, coin, rolls)
			moreFails(t, d, d, rolls)
			if got, ok := impl.CountRolls(d, rolls); ok || len(got) != 0 {
				t.Error("CountRolls", d, rolls, got, ok)
			}
		}
	}
	for _, p := range noPools() {
		for _, rolls := range [][]int{nil, {1}, {0}, {1, 2}, {6, 6}} {
			whichFails(t, p, repeated(len(p), 1), rolls)
			whichFails(t, p, []int{1}, rolls)
			whichFails(t, p, []int{1, 1}, rolls)
			whichFails(t, p, nil, rolls)
			whichFails(t, p, append(make([]int, max(len(p)-1, 0)), 1), rolls)
		}
	}
}

func TestWeightsThatAreNotValid(t *testing.T) {
	p := pool{ordinary, coin, loads, alone(2)}
	for size := 1; size <= len(p); size++ {
		for _, rolls := range [][]int{nil, {2}, {1, 2}, {2, 2, 2}} {
			for _, number := range append(otherNumbers(0, 99), 100, 101) {
				for place := range size {
					weights := repeated(size, 1)
					weights[place] = number
					whichFails(t, p[:size], weights, rolls)
				}
			}
			for other := range 8 {
				if other != size {
					whichFails(t, p[:size], repeated(other, 1), rolls)
					whichFails(t, p[:size], make([]int, other), rolls)
				}
			}
			whichFails(t, p[:size], make([]int, size), rolls)
			whichFails(t, p[:size], nil, rolls)
			whichFails(t, p[:size], repeated(41, 1), rolls)
			whichFails(t, p[:size], make([]int, 1<<20), rolls)
		}
	}
	// A weight that is not valid is so even where its die has the chance 0.
	whichFails(t, pool{ordinary, alone(7)}, []int{1, -1}, []int{1})
	whichFails(t, pool{alone(7), ordinary}, []int{100, 1}, []int{1})
	whichFails(t, pool{coin, coin}, []int{-1, 2}, []int{1})
	whichFails(t, pool{coin, coin}, []int{math.MaxInt, math.MinInt}, []int{1})
}

func TestCountVectorsAndTheirModes(t *testing.T) {
	for _, d := range counters() {
		for n := range 9 {
			c := newCounted(d, n)
			vectors, ok := impl.CountVectors(d, n)
			if !ok || !sameLists(vectors, c.vectors) {
				t.Fatal("CountVectors", d, n, len(vectors), ok, len(c.vectors))
			}
			sum := new(big.Rat)
			for _, counts := range vectors {
				chance, _ := impl.ChanceOfCounts(d, counts)
				sum.Add(sum, asRatio(t, chance))
			}
			if sum.Cmp(ratio(1, 1)) != 0 {
				t.Error("the chances of all counts are not 1 together", d, n, sum)
			}
			want := c.vectors[slices.Index(c.ways, slices.Max(c.ways))]
			mode, ok := impl.FirstMode(d, n)
			if !ok || !slices.Equal(mode, want) {
				t.Error("FirstMode", d, n, mode, ok, want)
			}
			if rare, ok := impl.ChanceAsRare(d, mode); !ok || rare != [2]int{1, 1} {
				t.Error("ChanceAsRare of the mode", d, n, rare, ok)
			}
		}
	}
}

func TestKnownCountVectors(t *testing.T) {
	cases := []struct {
		d    die
		n    int
		want [][]int
	}{
		{coin, 0, [][]int{{0, 0}}}, {coin, 1, [][]int{{0, 1}, {1, 0}}}, {coin, 2, [][]int{{0, 2}, {1, 1}, {2, 0}}}, {loads, 2, [][]int{{0, 2}, {1, 1}, {2, 0}}}, {alone(7), 0, [][]int{{0}}}, {alone(30), 8, [][]int{{8}}},
		{wide, 1, [][]int{{0, 0, 1}, {0, 1, 0}, {1, 0, 0}}}, {wide, 2, [][]int{{0, 0, 2}, {0, 1, 1}, {0, 2, 0}, {1, 0, 1}, {1, 1, 0}, {2, 0, 0}}}, {ordinary, 0, [][]int{{0, 0, 0, 0, 0, 0}}},
		{ordinary, 1, [][]int{{0, 0, 0, 0, 0, 1}, {0, 0, 0, 0, 1, 0}, {0, 0, 0, 1, 0, 0}, {0, 0, 1, 0, 0, 0}, {0, 1, 0, 0, 0, 0}, {1, 0, 0, 0, 0, 0}}},
	}
	for _, c := range cases {
		if got, ok := impl.CountVectors(c.d, c.n); !ok || !sameLists(got, c.want) {
			t.Error("CountVectors", c.d, c.n, got, ok)
		}
	}
	for n, want := range []int{1, 6, 21, 56, 126, 252, 462, 792, 1287} {
		if got, ok := impl.CountVectors(ordinary, n); !ok || len(got) != want {
			t.Error("CountVectors", n, len(got), ok)
		}
	}
}

func TestKnownModes(t *testing.T) {
	cases := []struct {
		d    die
		n    int
		want []int
	}{
		{ordinary, 0, []int{0, 0, 0, 0, 0, 0}}, {ordinary, 1, []int{0, 0, 0, 0, 0, 1}}, {ordinary, 2, []int{0, 0, 0, 0, 1, 1}}, {ordinary, 6, []int{1, 1, 1, 1, 1, 1}}, {ordinary, 8, []int{1, 1, 1, 1, 2, 2}}, {coin, 1, []int{0, 1}}, {coin, 2, []int{1, 1}},
		{coin, 3, []int{1, 2}}, {coin, 7, []int{3, 4}}, {coin, 8, []int{4, 4}}, {loads, 0, []int{0, 0}}, {loads, 2, []int{0, 2}}, {loads, 5, []int{0, 5}}, {loads, 6, []int{1, 5}}, {loads, 8, []int{1, 7}}, {wide, 1, []int{1, 0, 0}}, {wide, 5, []int{2, 2, 1}},
		{wide, 8, []int{4, 3, 1}}, {die{1, 1, 2, 2, 2, 3}, 3, []int{1, 2, 0}}, {die{1, 1, 2, 2, 2, 3}, 4, []int{1, 2, 1}}, {die{1, 1, 2, 2, 2, 3}, 8, []int{3, 4, 1}}, {alone(0), 0, []int{0}}, {alone(0), 8, []int{8}},
	}
	for _, c := range cases {
		if got, ok := impl.FirstMode(c.d, c.n); !ok || !slices.Equal(got, c.want) {
			t.Error("FirstMode", c.d, c.n, got, ok)
		}
	}
}

// checkTests checks how far and how rare the counts with an index are.
func checkTests(t *testing.T, c counted, i int) {
	t.Helper()
	counts := c.vectors[i]
	far, ok := impl.ChanceAsFar(c.d, counts)
	if want := c.chance(func(j int) bool { return c.distances[j].Cmp(c.distances[i]) >= 0 }); !ok || far != want {
		t.Fatal("ChanceAsFar", c.d, counts, far, ok, want)
	}
	rare, ok := impl.ChanceAsRare(c.d, counts)
	if want := c.chance(func(j int) bool { return c.ways[j] <= c.ways[i] }); !ok || rare != want {
		t.Fatal("ChanceAsRare", c.d, counts, rare, ok, want)
	}
}

func TestFarAndRareCountsAgainstAllCounts(t *testing.T) {
	for _, d := range counters() {
		for n := range 9 {
			c := newCounted(d, n)
			for _, i := range c.some() {
				checkTests(t, c, i)
			}
			if n < 4 {
				for i := range c.vectors {
					checkTests(t, c, i)
				}
			}
		}
	}
}

func TestNearestAndMostUsualCountsHaveTheChanceOne(t *testing.T) {
	one := [2]int{1, 1}
	for _, d := range counters() {
		for n := range 7 {
			c := newCounted(d, n)
			near, most := slices.MinFunc(c.distances, (*big.Rat).Cmp), slices.Max(c.ways)
			for i, counts := range c.vectors {
				isNear, isUsual := c.distances[i].Cmp(near) == 0, c.ways[i] == most
				if isNear {
					if got, ok := impl.ChanceAsFar(d, counts); !ok || got != one {
						t.Fatal("ChanceAsFar of the nearest counts", d, counts, got, ok)
					}
				}
				if isUsual {
					if got, ok := impl.ChanceAsRare(d, counts); !ok || got != one {
						t.Fatal("ChanceAsRare of the most usual counts", d, counts, got, ok)
					}
				}
			}
		}
	}
}

func TestKnownFarAndRareCounts(t *testing.T) {
	cases := []struct {
		d         die
		counts    []int
		far, rare [2]int
	}{
		{ordinary, []int{0, 0, 0, 0, 0, 0}, [2]int{1, 1}, [2]int{1, 1}}, {ordinary, []int{1, 0, 0, 0, 0, 0}, [2]int{1, 1}, [2]int{1, 1}}, {ordinary, []int{1, 1, 1, 1, 1, 1}, [2]int{1, 1}, [2]int{1, 1}}, {ordinary, []int{3, 0, 0, 2, 0, 1}, [2]int{23, 108}, [2]int{23, 108}},
		{ordinary, []int{0, 8, 0, 0, 0, 0}, [2]int{1, 279936}, [2]int{1, 279936}}, {ordinary, []int{2, 2, 1, 1, 1, 1}, [2]int{1, 1}, [2]int{1, 1}}, {coin, []int{2, 0}, [2]int{1, 2}, [2]int{1, 2}}, {coin, []int{0, 0}, [2]int{1, 1}, [2]int{1, 1}}, {coin, []int{4, 4}, [2]int{1, 1}, [2]int{1, 1}},
		{coin, []int{8, 0}, [2]int{1, 128}, [2]int{1, 128}}, {coin, []int{5, 3}, [2]int{93, 128}, [2]int{93, 128}}, {loads, []int{1, 0}, [2]int{1, 6}, [2]int{1, 6}}, {loads, []int{0, 1}, [2]int{1, 1}, [2]int{1, 1}}, {loads, []int{0, 6}, [2]int{4651, 7776}, [2]int{4651, 7776}},
		{loads, []int{2, 4}, [2]int{4651, 7776}, [2]int{12281, 46656}}, {loads, []int{8, 0}, [2]int{1, 1679616}, [2]int{1, 1679616}}, {wide, []int{1, 2, 3}, [2]int{403, 5184}, [2]int{161, 2592}}, {wide, []int{4, 3, 1}, [2]int{1, 1}, [2]int{1, 1}},
		{wide, []int{2, 2, 2}, [2]int{287, 432}, [2]int{101, 216}}, {die{1, 1, 2, 2, 2, 3}, []int{1, 0, 2}, [2]int{5, 72}, [2]int{7, 216}}, {alone(7), []int{0}, [2]int{1, 1}, [2]int{1, 1}}, {alone(7), []int{8}, [2]int{1, 1}, [2]int{1, 1}},
	}
	for _, c := range cases {
		far, ok1 := impl.ChanceAsFar(c.d, c.counts)
		rare, ok2 := impl.ChanceAsRare(c.d, c.counts)
		if !ok1 || !ok2 || far != c.far || rare != c.rare {
			t.Error("far and rare", c.d, c.counts, far, ok1, rare, ok2)
		}
	}
}

func TestMeanDistanceAgainstAllCounts(t *testing.T) {
	for _, d := range counters() {
		for n := 1; n <= 8; n++ {
			c := newCounted(d, n)
			want := new(big.Rat)
			for i, distance := range c.distances {
				want.Add(want, new(big.Rat).Mul(distance, ratio(c.ways[i], c.outcomes())))
			}
			if got, ok := impl.MeanDistance(d, n); !ok || got != fraction(want) || got != [2]int{len(facesOf(d)) - 1, 1} {
				t.Error("MeanDistance", d, n, got, ok, want)
			}
		}
	}
}

func TestChanceMissingAgainstAllRolls(t *testing.T) {
	for _, d := range counters() {
		for n := range 9 {
			c := newCounted(d, n)
			sum := new(big.Rat)
			for k := range 7 {
				missing := func(counts []int) bool {
					return len(slices.DeleteFunc(slices.Clone(counts), func(count int) bool { return count > 0 })) == k
				}
				got, ok := impl.ChanceMissing(d, n, k)
				if want := c.chance(func(i int) bool { return missing(c.vectors[i]) }); !ok || got != want {
					t.Error("ChanceMissing", d, n, k, got, ok, want)
				}
				if n <= 4 {
					want := chanceOfAllRows(d, n, func(row []int) bool { counts, _ := countsFor(d, row); return missing(counts) })
					if got != want {
						t.Error("ChanceMissing", d, n, k, got, want)
					}
				}
				sum.Add(sum, asRatio(t, got))
			}
			if sum.Cmp(ratio(1, 1)) != 0 {
				t.Error("the chances of all numbers that are missing are not 1 together", d, n, sum)
			}
			all, _ := impl.ChanceAll(d, n)
			if none, ok := impl.ChanceMissing(d, n, 0); !ok || none != all {
				t.Error("ChanceMissing and ChanceAll", d, n, none, ok, all)
			}
		}
	}
}

func TestKnownMissingNumbers(t *testing.T) {
	cases := []struct {
		d    die
		n    int
		want [7][2]int
	}{
		{ordinary, 0, [7][2]int{6: {1, 1}}}, {ordinary, 1, [7][2]int{5: {1, 1}}}, {ordinary, 2, [7][2]int{4: {5, 6}, 5: {1, 6}}}, {ordinary, 6, [7][2]int{{5, 324}, {25, 108}, {325, 648}, {25, 108}, {155, 7776}, {1, 7776}}},
		{ordinary, 8, [7][2]int{{665, 5832}, {875, 1944}, {35, 96}, {805, 11664}, {635, 279936}, {1, 279936}}}, {coin, 0, [7][2]int{2: {1, 1}}}, {coin, 2, [7][2]int{{1, 2}, {1, 2}}}, {coin, 8, [7][2]int{{127, 128}, {1, 128}}}, {loads, 2, [7][2]int{{5, 18}, {13, 18}}},
		{loads, 8, [7][2]int{{644495, 839808}, {195313, 839808}}}, {wide, 0, [7][2]int{3: {1, 1}}}, {wide, 3, [7][2]int{{1, 6}, {2, 3}, {1, 6}}}, {wide, 8, [7][2]int{{4249, 5832}, {224543, 839808}, {3409, 839808}}}, {alone(7), 0, [7][2]int{1: {1, 1}}}, {alone(7), 1, [7][2]int{{1, 1}}},
		{alone(30), 8, [7][2]int{{1, 1}}},
	}
	for _, c := range cases {
		for k, want := range c.want {
			if want == [2]int{} {
				want = [2]int{0, 1}
			}
			if got, ok := impl.ChanceMissing(c.d, c.n, k); !ok || got != want {
				t.Error("ChanceMissing", c.d, c.n, k, got, ok, want)
			}
		}
	}
}

// farFails checks that some counts are not told to be as far or as rare as any.
func farFails(t *testing.T, d die, counts []int) {
	t.Helper()
	if got, ok := impl.ChanceAsFar(d, counts); ok || got != [2]int{} {
		t.Error("ChanceAsFar", d, counts, got, ok)
	}
	if got, ok := impl.ChanceAsRare(d, counts); ok || got != [2]int{} {
		t.Error("ChanceAsRare", d, counts, got, ok)
	}
}

// countsFail checks that a list are no counts of a die.
func countsFail(t *testing.T, d die, counts []int) {
	t.Helper()
	if got, ok := impl.LikelihoodOf(d, counts); ok || got != [2]int{} {
		t.Error("LikelihoodOf", d, counts, got, ok)
	}
	if got, ok := impl.ChanceOfCounts(d, counts); ok || got != [2]int{} {
		t.Error("ChanceOfCounts", d, counts, got, ok)
	}
	if got, ok := impl.DistanceOf(d, counts); ok || got != [2]int{} {
		t.Error("DistanceOf", d, counts, got, ok)
	}
	farFails(t, d, counts)
}

// rollsFail checks that a die is not rolled a number of times.
func rollsFail(t *testing.T, d die, n int) {
	t.Helper()
	if got, ok := impl.CountVectors(d, n); ok || len(got) != 0 {
		t.Error("CountVectors", d, n, len(got), ok)
	}
	if got, ok := impl.FirstMode(d, n); ok || len(got) != 0 {
		t.Error("FirstMode", d, n, got, ok)
	}
	if got, ok := impl.MeanDistance(d, n); ok || got != [2]int{} {
		t.Error("MeanDistance", d, n, got, ok)
	}
	for k := range 7 {
		if got, ok := impl.ChanceMissing(d, n, k); ok || got != [2]int{} {
			t.Error("ChanceMissing", d, n, k, got, ok)
		}
	}
}

func TestListsThatAreNoCounts(t *testing.T) {
	for _, d := range counters() {
		for _, counts := range noCounts(d) {
			countsFail(t, d, counts)
		}
		countsFail(t, d, nil)
		// These are counts, but of too many rolls to be tested.
		for n := 9; n <= 12; n++ {
			counts := make([]int, len(facesOf(d)))
			for place := range counts {
				counts[place] = n
				farFails(t, d, counts)
				counts[place] = 0
			}
			for i := range n {
				counts[i%len(counts)]++
			}
			farFails(t, d, counts)
			if got, ok := impl.LikelihoodOf(d, counts); !ok || got == [2]int{} {
				t.Error("LikelihoodOf", d, counts, got, ok)
			}
		}
	}
}

func TestCountsOfNoDice(t *testing.T) {
	for _, d := range noDice() {
		for size := range 8 {
			countsFail(t, d, make([]int, size))
			countsFail(t, d, repeated(size, 1))
			if size > 0 {
				countsFail(t, d, append(make([]int, size-1), 2))
			}
		}
		for n := -1; n <= 9; n++ {
			rollsFail(t, d, n)
		}
	}
}

func TestNumbersOfRollsThatAreNotValid(t *testing.T) {
	for _, d := range counters() {
		for _, n := range append(otherNumbers(0, 8), 9, 12, 13) {
			rollsFail(t, d, n)
		}
		for n := range 9 {
			for _, k := range otherNumbers(0, 6) {
				if got, ok := impl.ChanceMissing(d, n, k); ok || got != [2]int{} {
					t.Error("ChanceMissing", d, n, k, got, ok)
				}
			}
		}
		if got, ok := impl.MeanDistance(d, 0); ok || got != [2]int{} {
			t.Error("MeanDistance", d, got, ok)
		}
	}
}

func TestArgumentsAreLeftByChapter11(t *testing.T) {
	whole := pool{coin, ordinary, alone(30), wide, {6, 5, 4, 3, 2, 1}, alone(-1)}
	kept := copyOf(whole)
	lists := [][]int{{2, 1, 2, 1, 1, 2, 1, 30, 2}, {6, 5, 4, 3, 2, 1, 6, 5, 4}, {3, 0, 1, 2, 0, 1}, {0, 4, 0}, {12, 1, -1, 31}, repeated(13, 1), {math.MaxInt, math.MinInt}, {1, 99, 3, 0, 100}}
	for _, list := range lists {
		before := slices.Clone(list)
		for size := range len(list) + 1 {
			part := list[:size]
			for _, d := range whole {
				impl.CountRolls(d, part)
				impl.LikelihoodOf(d, part)
				impl.ChanceOfCounts(d, part)
				impl.MoreLikely(d, whole[0], part)
				impl.DistanceOf(d, part)
				impl.ChanceAsFar(d, part)
				impl.ChanceAsRare(d, part)
			}
			for dice := range len(whole) + 1 {
				impl.WhichDie(whole[:dice], repeated(dice, 7), part)
				impl.WhichDie(whole[:dice], part, []int{1})
			}
		}
		if !slices.Equal(list, before) || !reflect.DeepEqual(whole, kept) {
			t.Fatal("an argument became", list, before, whole, kept)
		}
	}
}

func TestResultsOfChapter11AreNew(t *testing.T) {
	rolls, counts, weights := []int{1, 2, 1}, []int{2, 1}, []int{1, 1}
	isNewList(t, "CountRolls", rolls, func() []int { counts, _ := impl.CountRolls(coin, rolls); return counts })
	isNewList(t, "FirstMode", counts, func() []int { mode, _ := impl.FirstMode(coin, 3); return mode })
	isNewList(t, "WhichDie", weights, func() []int {
		var list []int
		chances, _ := impl.WhichDie(pool{coin, ordinary}, weights, rolls)
		for i := range chances {
			list = append(list, chances[i][:]...)
			chances[i] = [2]int{-1, -1}
		}
		return list
	})
	for _, d := range []die{ordinary, coin, wide, alone(30)} {
		for n := range 6 {
			first, _ := impl.CountVectors(d, n)
			second, _ := impl.CountVectors(d, n)
			mode, _ := impl.FirstMode(d, n)
			if !shareNothing(append(slices.Concat(first, second), mode)) {
				t.Error("lists of CountVectors share memory", d, n)
			}
			wanted, _ := impl.CountVectors(d, n)
			clear(wanted[:cap(wanted)])
			if again, ok := impl.CountVectors(d, n); !ok || !sameLists(again, newCounted(d, n).vectors) {
				t.Error("CountVectors keeps what it has returned", d, n, again, ok)
			}
		}
	}
}
