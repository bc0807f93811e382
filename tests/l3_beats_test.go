package tests

import (
	"math"
	"math/big"
	"reflect"
	"slices"
	"testing"

	"loop.example/g01210/impl"
)

// three and efron are rows in which each die beats the next one, and the last one the first one.
var (
	three = pool{{2, 2, 4, 4, 9, 9}, {1, 1, 6, 6, 8, 8}, {3, 3, 5, 5, 7, 7}}
	efron = pool{{0, 0, 4, 4, 4, 4}, alone(3), {2, 2, 2, 2, 6, 6}, {1, 1, 1, 5, 5, 5}}
)

// someRows are rows of one to six dice, with rings of all lengths, the same dice twice, and dice
// with one number alone.
func someRows() []pool {
	rows := []pool{three, efron}
	for _, d := range someDice() {
		rows = append(rows, pool{d}, pool{d, d}, pool{d, d, d}, pool{d, d, d, d, d, d})
	}
	rows = append(rows, pool{three[0], three[0], three[1], three[1], three[2], three[2]}, pool{three[2], three[1], three[0]},
		pool{three[0], three[1], three[2], three[0], three[1], three[2]}, pool{efron[0], efron[1], efron[2], efron[3], efron[1], efron[2]},
		pool{alone(0), alone(1), alone(2), alone(3), alone(4), alone(5)}, pool{alone(5), alone(4), alone(3), alone(2), alone(1), alone(0)},
		pool{alone(0), alone(30)}, pool{alone(30), alone(0), alone(30)}, pool{ordinary, alone(3), alone(4), ordinary, {3, 3, 3, 4, 4, 4}},
		pool{{0, 5, 5, 5, 5, 5}, alone(4), {3, 3, 3, 3, 3, 7}}, pool{{0, 5, 5, 5, 5, 5}, {3, 3, 3, 3, 3, 7}, alone(4)})
	row := someNumbers(7)
	for size := 1; size <= 6; size++ {
		for greatest := range 31 {
			var p pool
			for range size {
				p = append(p, row.someDie(greatest))
			}
			rows = append(rows, p)
			q := copyOf(p)
			q[row.below(size)] = q[row.below(size)]
			rows = append(rows, q)
		}
		// Dice with the same mean beat one another round in rings most of all.
		for range 40 {
			var p pool
			for len(p) < size {
				if d := row.someDie(9); sumOf(d[:]) == 27 {
					p = append(p, d)
				}
			}
			rows = append(rows, p)
		}
	}
	return rows
}

// noRows are lists that are no rows.
func noRows() []pool {
	rows := []pool{nil, {}, make(pool, 7), make(pool, 100), {ordinary, ordinary, ordinary, ordinary, ordinary, ordinary, ordinary}}
	for _, d := range noDice() {
		rows = append(rows, pool{d}, pool{d, ordinary}, pool{ordinary, d}, pool{three[0], d, three[2]},
			pool{ordinary, ordinary, ordinary, ordinary, ordinary, d}, pool{d, d, d, d, d, d})
	}
	return rows
}

// duel counts the outcomes of two dice with a greater face of the first one, the same and a less one.
func duel(a, b die) (greater, same, less int) {
	for _, x := range a {
		for _, y := range b {
			switch {
			case x > y:
				greater++
			case x == y:
				same++
			default:
				less++
			}
		}
	}
	return greater, same, less
}

func beats(a, b die) bool {
	greater, _, less := duel(a, b)
	return greater > less
}

// wantedRings tells the rings of a row by trying all lists of different places.
func wantedRings(row pool) [][]int {
	var rings [][]int
	var try func(places []int)
	try = func(places []int) {
		isRing := len(places) >= 3 && slices.Min(places) == places[0]
		for i, place := range places {
			isRing = isRing && beats(row[place], row[places[(i+1)%len(places)]])
		}
		if isRing {
			rings = append(rings, slices.Clone(places))
		}
		for next := range row {
			if !slices.Contains(places, next) {
				try(append(slices.Clone(places), next))
			}
		}
	}
	try(nil)
	slices.SortFunc(rings, func(a, b []int) int {
		if len(a) != len(b) {
			return len(a) - len(b)
		}
		return slices.Compare(a, b)
	})
	return rings
}

func sameLists(a, b [][]int) bool {
	return slices.EqualFunc(a, b, slices.Equal[[]int])
}

func TestRowLimit(t *testing.T) {
	if impl.MaxRing != 6 {
		t.Error("MaxRing", impl.MaxRing)
	}
}

func TestCompareDice(t *testing.T) {
	for _, a := range someDice() {
		for _, b := range someDice() {
			greater, same, less := duel(a, b)
			got, ok := impl.CompareDice(a, b)
			if !ok || got != [3]int{greater, same, less} {
				t.Error("CompareDice", a, b, got, ok)
			}
			if got[0]+got[1]+got[2] != 36 {
				t.Error("the ways are not 36 together", a, b, got)
			}
			if beat, ok := impl.DoesBeat(a, b); !ok || beat != (greater > less) {
				t.Error("DoesBeat", a, b, beat, ok)
			}
		}
	}
	cases := []struct {
		a, b die
		ways [3]int
	}{
		{three[0], three[1], [3]int{20, 0, 16}}, {ordinary, ordinary, [3]int{15, 6, 15}}, {alone(0), alone(0), [3]int{0, 36, 0}},
		{alone(30), alone(0), [3]int{36, 0, 0}}, {alone(29), alone(30), [3]int{0, 0, 36}}, {ordinary, alone(2), [3]int{24, 6, 6}},
		{die{0, 0, 0, 0, 0, 30}, alone(1), [3]int{6, 0, 30}},
	}
	for _, c := range cases {
		if got, ok := impl.CompareDice(c.a, c.b); !ok || got != c.ways {
			t.Error("CompareDice", c.a, c.b, got, ok)
		}
	}
}

func TestDoesBeatByFewWays(t *testing.T) {
	cases := []struct {
		a, b die
		want bool
	}{
		{ordinary, ordinary, false}, {alone(4), alone(4), false}, {alone(5), alone(4), true}, {alone(4), alone(5), false},
		{ordinary, alone(3), true}, {alone(3), ordinary, false}, {die{0, 0, 0, 30, 30, 30}, alone(15), false},
		{alone(15), die{0, 0, 0, 30, 30, 30}, false}, {die{0, 0, 0, 0, 0, 1}, alone(0), true}, {alone(0), die{0, 0, 0, 0, 0, 1}, false},
		{die{5, 5, 5, 5, 5, 6}, alone(5), true}, {die{5, 5, 5, 5, 5, 5}, die{4, 5, 5, 5, 5, 5}, true},
		// What counts is how often a face is greater, and not by how much.
		{die{0, 0, 0, 0, 0, 30}, alone(1), false}, {alone(1), die{0, 0, 0, 0, 0, 30}, true},
	}
	for _, c := range cases {
		if got, ok := impl.DoesBeat(c.a, c.b); !ok || got != c.want {
			t.Error("DoesBeat", c.a, c.b, got, ok)
		}
	}
}

func TestFunctionsOfTwoThatAreNoDice(t *testing.T) {
	for _, d := range noDice() {
		for _, pair := range [][2]die{{d, ordinary}, {ordinary, d}, {d, d}, {d, alone(0)}, {alone(30), d}} {
			a, b := pair[0], pair[1]
			if got, ok := impl.CompareDice(a, b); ok || got != [3]int{} {
				t.Error("CompareDice", a, b, got, ok)
			}
			if got, ok := impl.DoesBeat(a, b); ok || got {
				t.Error("DoesBeat", a, b, got, ok)
			}
			if got, ok := impl.DoesCover(a, b); ok || got {
				t.Error("DoesCover", a, b, got, ok)
			}
			if got, ok := impl.LeastShift(a, b); ok || got != 0 {
				t.Error("LeastShift", a, b, got, ok)
			}
		}
	}
}

func TestChancesOfTwoPools(t *testing.T) {
	pools := somePools()
	ways, sizes := make([][121]int, len(pools)), make([]int, len(pools))
	for i, p := range pools {
		eachRoll(p, func(roll []int) { ways[i][sumOf(roll)]++ })
		sizes[i] = outcomes(p)
	}
	for i, p := range pools {
		for j, q := range pools {
			greater, same := 0, 0
			for sum, n := range ways[i] {
				for other, m := range ways[j] {
					if sum > other {
						greater += n * m
					} else if sum == other {
						same += n * m
					}
				}
			}
			chance, ok := impl.ChanceToBeat(p, q)
			if !ok || chance != fraction(ratio(greater, sizes[i]*sizes[j])) {
				t.Fatal("ChanceToBeat", p, q, chance, ok)
			}
			level, ok := impl.ChanceLevel(p, q)
			if !ok || level != fraction(ratio(same, sizes[i]*sizes[j])) {
				t.Fatal("ChanceLevel", p, q, level, ok)
			}
			beaten, _ := impl.ChanceToBeat(q, p)
			together := new(big.Rat).Add(asRatio(t, chance), asRatio(t, level))
			if together.Add(together, asRatio(t, beaten)).Cmp(ratio(1, 1)) != 0 {
				t.Fatal("the chances are not 1 together", p, q, chance, level, beaten)
			}
		}
	}
}

func TestKnownChancesOfTwoPools(t *testing.T) {
	most := pool{alone(30), alone(30), alone(30), alone(30)}
	none := pool{alone(0), alone(0), alone(0), alone(0)}
	cases := []struct {
		p, q          pool
		chance, level [2]int
	}{
		{pool{ordinary}, pool{ordinary}, [2]int{5, 12}, [2]int{1, 6}},
		{pool{ordinary, ordinary}, pool{ordinary, ordinary}, [2]int{575, 1296}, [2]int{73, 648}},
		{pool{ordinary, ordinary}, pool{ordinary}, [2]int{181, 216}, [2]int{5, 72}},
		{most, none, [2]int{1, 1}, [2]int{0, 1}}, {none, most, [2]int{0, 1}, [2]int{0, 1}},
		{most, most, [2]int{0, 1}, [2]int{1, 1}}, {none, pool{alone(0)}, [2]int{0, 1}, [2]int{1, 1}},
		{pool{three[0]}, pool{three[1]}, [2]int{5, 9}, [2]int{0, 1}},
	}
	for _, c := range cases {
		if got, ok := impl.ChanceToBeat(c.p, c.q); !ok || got != c.chance {
			t.Error("ChanceToBeat", c.p, c.q, got, ok)
		}
		if got, ok := impl.ChanceLevel(c.p, c.q); !ok || got != c.level {
			t.Error("ChanceLevel", c.p, c.q, got, ok)
		}
	}
	// Five dice are a row, but no pool.
	five := pool{ordinary, ordinary, ordinary, ordinary, ordinary}
	for _, p := range append(noPools(), five) {
		for _, pair := range [][2]pool{{p, {ordinary}}, {{ordinary}, p}, {p, p}} {
			if got, ok := impl.ChanceToBeat(pair[0], pair[1]); ok || got != [2]int{} {
				t.Error("ChanceToBeat", pair, got, ok)
			}
			if got, ok := impl.ChanceLevel(pair[0], pair[1]); ok || got != [2]int{} {
				t.Error("ChanceLevel", pair, got, ok)
			}
		}
	}
}

func TestBeatTableAndCounts(t *testing.T) {
	for _, row := range someRows() {
		var table [][]int
		var counts []int
		var pairs [][2]int
		for i, a := range row {
			line, count := []int{}, 0
			for j, b := range row {
				switch {
				case beats(a, b):
					line = append(line, 1)
					count++
				case beats(b, a):
					line = append(line, -1)
				default:
					line = append(line, 0)
					if i < j {
						pairs = append(pairs, [2]int{i, j})
					}
				}
			}
			table, counts = append(table, line), append(counts, count)
		}
		if got, ok := impl.BeatTable(row); !ok || !sameLists(got, table) {
			t.Error("BeatTable", row, got, ok)
		}
		if got, ok := impl.BeatenBy(row); !ok || !slices.Equal(got, counts) {
			t.Error("BeatenBy", row, got, ok)
		}
		if got, ok := impl.LevelPairs(row); !ok || !slices.Equal(got, pairs) {
			t.Error("LevelPairs", row, got, ok)
		}
	}
}

func TestRings(t *testing.T) {
	lengths := map[int]int{}
	for _, row := range someRows() {
		want := wantedRings(row)
		got, ok := impl.RingsOf(row)
		if !ok || !sameLists(got, want) {
			t.Error("RingsOf", row, got, ok)
		}
		all := make([]int, len(row))
		for place := range row {
			all[place] = place
		}
		isRing := slices.ContainsFunc(want, func(ring []int) bool { return slices.Equal(ring, all) })
		if got, ok := impl.IsRingRow(row); !ok || got != isRing {
			t.Error("IsRingRow", row, got, ok)
		}
		for _, ring := range got {
			lengths[len(ring)]++
			covered := 0
			for i, place := range ring {
				next := ring[(i+1)%len(ring)]
				if beat, ok := impl.DoesBeat(row[place], row[next]); !ok || !beat {
					t.Error("a die of a ring does not beat the next one", row, ring, place)
				}
				if covers, ok := impl.DoesCover(row[place], row[next]); ok && covers {
					covered++
				}
			}
			if covered == len(ring) {
				t.Error("the dice of a ring all cover the next one", row, ring)
			}
		}
	}
	for length := 3; length <= 6; length++ {
		if lengths[length] == 0 {
			t.Error("no ring of this length was found", length)
		}
	}
}

func TestKnownRings(t *testing.T) {
	a, b, c := three[0], three[1], three[2]
	cases := []struct {
		row   pool
		rings [][]int
		whole bool
	}{
		{pool{a}, nil, false}, {pool{a, b}, nil, false}, {pool{b, a}, nil, false}, {pool{a, a}, nil, false}, {pool{a, a, a}, nil, false},
		{pool{a, b, c}, [][]int{{0, 1, 2}}, true}, {pool{b, c, a}, [][]int{{0, 1, 2}}, true}, {pool{a, c, b}, [][]int{{0, 2, 1}}, false},
		{pool{alone(2), alone(1), alone(0)}, nil, false}, {pool{alone(30), alone(30), alone(30)}, nil, false},
		{pool{a, b, c, a}, [][]int{{0, 1, 2}, {1, 2, 3}}, false},
		{pool{alone(30), a, b, c}, [][]int{{1, 2, 3}}, false},
		{pool{a, a, b, b, c, c}, [][]int{
			{0, 2, 4}, {0, 2, 5}, {0, 3, 4}, {0, 3, 5}, {1, 2, 4}, {1, 2, 5}, {1, 3, 4}, {1, 3, 5},
			{0, 2, 4, 1, 3, 5}, {0, 2, 5, 1, 3, 4}, {0, 3, 4, 1, 2, 5}, {0, 3, 5, 1, 2, 4},
		}, false},
		{pool{a, b, c, a, b, c}, [][]int{
			{0, 1, 2}, {0, 1, 5}, {0, 4, 2}, {0, 4, 5}, {1, 2, 3}, {1, 5, 3}, {2, 3, 4}, {3, 4, 5},
			{0, 1, 2, 3, 4, 5}, {0, 1, 5, 3, 4, 2}, {0, 4, 2, 3, 1, 5}, {0, 4, 5, 3, 1, 2},
		}, true},
	}
	for _, c := range cases {
		if got, ok := impl.RingsOf(c.row); !ok || !sameLists(got, c.rings) {
			t.Error("RingsOf", c.row, got, ok)
		}
		if got, ok := impl.IsRingRow(c.row); !ok || got != c.whole {
			t.Error("IsRingRow", c.row, got, ok)
		}
	}
	if got, ok := impl.IsRingRow(efron); !ok || !got {
		t.Error("IsRingRow of Efron's dice", got, ok)
	}
	if got, ok := impl.RingsOf(efron); !ok || len(got) == 0 || !slices.Equal(got[len(got)-1], []int{0, 1, 2, 3}) {
		t.Error("RingsOf of Efron's dice", got, ok)
	}
}

func TestKnownPairs(t *testing.T) {
	cases := []struct {
		row   pool
		pairs [][2]int
	}{
		{pool{ordinary}, nil}, {pool{ordinary, ordinary}, [][2]int{{0, 1}}}, {three, nil}, {pool{alone(3), alone(4)}, nil},
		{pool{alone(7), alone(7), alone(7)}, [][2]int{{0, 1}, {0, 2}, {1, 2}}},
		{pool{three[0], three[1], three[0]}, [][2]int{{0, 2}}},
		// Dice without a common number can be level, too.
		{pool{{0, 0, 0, 30, 30, 30}, alone(15), alone(16)}, [][2]int{{0, 1}, {0, 2}}},
	}
	for _, c := range cases {
		if got, ok := impl.LevelPairs(c.row); !ok || !slices.Equal(got, c.pairs) {
			t.Error("LevelPairs", c.row, got, ok)
		}
	}
}

func TestBestAgainst(t *testing.T) {
	enemies := []die{ordinary, alone(0), alone(3), alone(30), {0, 0, 0, 30, 30, 30}, three[0], three[1], efron[2]}
	for _, row := range someRows() {
		for _, d := range append(enemies, row...) {
			best, most := 0, -1
			for place, own := range row {
				if greater, _, _ := duel(own, d); greater > most {
					best, most = place, greater
				}
			}
			if place, ways, ok := impl.BestAgainst(row, d); !ok || place != best || ways != most {
				t.Error("BestAgainst", row, d, place, ways, ok)
			}
		}
	}
	cases := []struct {
		row         pool
		d           die
		place, ways int
	}{
		{three, three[2], 1, 20}, {three, three[0], 2, 20}, {three, alone(30), 0, 0}, {pool{alone(0)}, alone(0), 0, 0},
		{pool{alone(1), alone(30), alone(30)}, alone(1), 1, 36}, {pool{ordinary, ordinary}, ordinary, 0, 15},
		// What is level does not count: the second die beats by more, the first one is greater more often.
		{pool{{0, 0, 3, 3, 3, 3}, {2, 2, 2, 3, 3, 3}}, alone(2), 0, 24},
	}
	for _, c := range cases {
		if place, ways, ok := impl.BestAgainst(c.row, c.d); !ok || place != c.place || ways != c.ways {
			t.Error("BestAgainst", c.row, c.d, place, ways, ok)
		}
	}
	for _, d := range noDice() {
		for _, row := range []pool{three, {ordinary}, {d}} {
			if place, ways, ok := impl.BestAgainst(row, d); ok || place != 0 || ways != 0 {
				t.Error("BestAgainst", row, d, place, ways, ok)
			}
		}
	}
}

func TestSafestOf(t *testing.T) {
	for _, row := range someRows() {
		best, most := 0, -1
		for i, a := range row {
			least := 36
			for j, b := range row {
				if greater, _, _ := duel(a, b); i != j {
					least = min(least, greater)
				}
			}
			if least > most {
				best, most = i, least
			}
		}
		if place, ways, ok := impl.SafestOf(row); !ok || place != best || ways != most {
			t.Error("SafestOf", row, place, ways, ok)
		}
	}
	cases := []struct {
		row         pool
		place, ways int
	}{
		{pool{ordinary}, 0, 36}, {pool{alone(0)}, 0, 36}, {pool{alone(30)}, 0, 36}, {three, 0, 16},
		{pool{alone(4), alone(4)}, 0, 0}, {pool{ordinary, ordinary}, 0, 15}, {pool{alone(3), alone(4)}, 1, 36},
		{pool{alone(3), alone(4), alone(4)}, 0, 0}, {pool{alone(0), ordinary, ordinary}, 1, 15},
	}
	for _, c := range cases {
		if place, ways, ok := impl.SafestOf(c.row); !ok || place != c.place || ways != c.ways {
			t.Error("SafestOf", c.row, place, ways, ok)
		}
	}
}

func TestDoesCover(t *testing.T) {
	dice := append(someDice(), append(append(pool{}, three...), efron...)...)
	row := someNumbers(8)
	for range 60 {
		dice = append(dice, row.someDie(3))
	}
	for _, a := range dice {
		for _, b := range dice {
			want := true
			for n := -1; n <= 31; n++ {
				own, other := 0, 0
				for i := range a {
					if a[i] >= n {
						own++
					}
					if b[i] >= n {
						other++
					}
				}
				want = want && own >= other
			}
			got, ok := impl.DoesCover(a, b)
			if !ok || got != want {
				t.Fatal("DoesCover", a, b, got, ok)
			}
			if got && beats(b, a) {
				t.Error("a die that covers another one is beaten by it", a, b)
			}
		}
	}
	cases := []struct {
		a, b die
		want bool
	}{
		{ordinary, ordinary, true}, {die{2, 3, 4, 5, 6, 7}, ordinary, true}, {ordinary, die{2, 3, 4, 5, 6, 7}, false},
		{alone(0), alone(0), true}, {alone(30), ordinary, true}, {alone(6), ordinary, true}, {alone(5), ordinary, false},
		{ordinary, alone(1), true}, {ordinary, alone(2), false}, {die{0, 30, 30, 30, 30, 30}, alone(1), false},
		{die{1, 2, 3, 4, 5, 7}, ordinary, true}, {die{0, 2, 3, 4, 5, 7}, ordinary, false},
	}
	for _, c := range cases {
		if got, ok := impl.DoesCover(c.a, c.b); !ok || got != c.want {
			t.Error("DoesCover", c.a, c.b, got, ok)
		}
	}
}

func TestLeastShift(t *testing.T) {
	failed := 0
	for _, a := range someDice() {
		for _, b := range someDice() {
			want, found := 0, false
			for k := 0; k <= 30-a[5] && !found; k++ {
				shifted := a
				for i := range shifted {
					shifted[i] += k
				}
				if beats(shifted, b) {
					want, found = k, true
				}
			}
			if !found {
				failed++
			}
			if got, ok := impl.LeastShift(a, b); ok != found || got != want {
				t.Error("LeastShift", a, b, got, ok)
			}
		}
	}
	if failed == 0 {
		t.Error("no two dice without a shift were tried")
	}
	cases := []struct {
		a, b  die
		shift int
		ok    bool
	}{
		{ordinary, ordinary, 1, true}, {alone(0), alone(0), 1, true}, {alone(30), alone(29), 0, true}, {alone(0), alone(29), 30, true},
		{alone(0), alone(30), 0, false}, {alone(30), alone(30), 0, false}, {die{0, 0, 0, 0, 0, 30}, alone(1), 0, false},
		{die{0, 0, 0, 0, 0, 29}, alone(0), 0, true}, {die{0, 0, 0, 0, 0, 29}, alone(1), 1, true}, {die{0, 0, 0, 0, 0, 29}, alone(2), 0, false}, {three[0], three[1], 0, true},
		{three[1], three[0], 1, true}, {die{24, 24, 24, 24, 24, 24}, alone(29), 6, true},
	}
	for _, c := range cases {
		if got, ok := impl.LeastShift(c.a, c.b); ok != c.ok || got != c.shift {
			t.Error("LeastShift", c.a, c.b, got, ok)
		}
	}
}

func TestFunctionsOfNoRows(t *testing.T) {
	for _, row := range noRows() {
		if got, ok := impl.BeatTable(row); ok || len(got) != 0 {
			t.Error("BeatTable", row, got, ok)
		}
		if got, ok := impl.RingsOf(row); ok || len(got) != 0 {
			t.Error("RingsOf", row, got, ok)
		}
		if got, ok := impl.IsRingRow(row); ok || got {
			t.Error("IsRingRow", row, got, ok)
		}
		if got, ok := impl.LevelPairs(row); ok || len(got) != 0 {
			t.Error("LevelPairs", row, got, ok)
		}
		if place, ways, ok := impl.BestAgainst(row, ordinary); ok || place != 0 || ways != 0 {
			t.Error("BestAgainst", row, place, ways, ok)
		}
		if place, ways, ok := impl.SafestOf(row); ok || place != 0 || ways != 0 {
			t.Error("SafestOf", row, place, ways, ok)
		}
		if got, ok := impl.BeatenBy(row); ok || len(got) != 0 {
			t.Error("BeatenBy", row, got, ok)
		}
	}
}

func TestRowsAreLeftAsTheyAre(t *testing.T) {
	whole := pool{three[2], three[0], efron[3], three[1], ordinary, alone(9), {6, 5, 4, 3, 2, 1}, ordinary}
	kept := copyOf(whole)
	for size := range len(whole) + 1 {
		for from := range len(whole) - size + 1 {
			row, other := whole[from:from+size], whole[:from]
			impl.BeatTable(row)
			impl.RingsOf(row)
			impl.IsRingRow(row)
			impl.LevelPairs(row)
			impl.BestAgainst(row, ordinary)
			impl.SafestOf(row)
			impl.BeatenBy(row)
			impl.ChanceToBeat(row, other)
			impl.ChanceToBeat(other, row)
			impl.ChanceLevel(row, other)
			impl.ChanceLevel(other, row)
			if !reflect.DeepEqual(whole, kept) {
				t.Fatal("the dice became", whole)
			}
		}
	}
}

// shareNothing reports whether each of the lists can be written, up to its capacity, while the
// others keep what they have.
func shareNothing(lists [][]int) bool {
	var kept [][]int
	for _, list := range lists {
		kept = append(kept, slices.Clone(list))
	}
	for i, list := range lists {
		whole := list[:cap(list)]
		for place := range whole {
			whole[place] = math.MinInt
		}
		for j := i + 1; j < len(lists); j++ {
			if !slices.Equal(lists[j], kept[j]) {
				return false
			}
		}
	}
	return true
}

func TestResultsOfRowsAreNew(t *testing.T) {
	for _, row := range someRows() {
		first, _ := impl.BeatTable(row)
		second, _ := impl.BeatTable(row)
		if !shareNothing(slices.Concat(first, second)) {
			t.Fatal("lists of BeatTable share memory", row)
		}
		first, _ = impl.RingsOf(row)
		second, _ = impl.RingsOf(row)
		if !shareNothing(slices.Concat(first, second)) {
			t.Fatal("lists of RingsOf share memory", row)
		}
		counts, _ := impl.BeatenBy(row)
		others, _ := impl.BeatenBy(row)
		if !shareNothing([][]int{counts, others}) {
			t.Fatal("lists of BeatenBy share memory", row)
		}
		pairs, _ := impl.LevelPairs(row)
		again, _ := impl.LevelPairs(row)
		kept := slices.Clone(again)
		for i := range pairs {
			pairs[i] = [2]int{99, 99}
		}
		if !slices.Equal(again, kept) {
			t.Fatal("lists of LevelPairs share memory", row)
		}
	}
}
