package tests

import (
	"math/big"
	"slices"
	"testing"

	"loop.example/g01210/impl"
)

// waiters are dice of all kinds, and dice with one to six numbers of many weights.
func waiters() []die {
	return append(someDice(), coin, die{0, 0, 0, 1, 1, 1}, die{1, 1, 2, 2, 3, 3}, die{0, 1, 1, 1, 1, 1}, die{1, 1, 1, 2, 2, 3},
		die{0, 0, 0, 0, 0, 7}, die{4, 4, 5, 5, 5, 30}, die{1, 1, 2, 3, 4, 4}, die{2, 3, 3, 3, 3, 30}, die{0, 0, 29, 29, 30, 30})
}

var (
	coin  = die{1, 1, 1, 2, 2, 2}
	loads = die{1, 2, 2, 2, 2, 2}
	wide  = die{0, 0, 0, 5, 5, 30}
)

// otherNumbers returns numbers that are not valid as such: those around two bounds, and others far
// off.
func otherNumbers(least, greatest int) []int {
	numbers := []int{least - 1, least - 2, least - 100, greatest + 1, greatest + 2, greatest + 100, greatest + 1<<40}
	for _, number := range manyNumbers {
		if number < least || number > greatest {
			numbers = append(numbers, number)
		}
	}
	return numbers
}

// waysFor tells how many faces of a die are a number.
func waysFor(d die, number int) int {
	ways := 0
	for _, face := range d {
		if face == number {
			ways++
		}
	}
	return ways
}

// chanceFor tells the chance that one roll is a number.
func chanceFor(d die, number int) *big.Rat { return ratio(waysFor(d, number), 6) }

// facesOf returns the numbers of a die in ascending order.
func facesOf(d die) []int {
	var numbers []int
	for number := range 31 {
		if waysFor(d, number) > 0 {
			numbers = append(numbers, number)
		}
	}
	return numbers
}

// chanceOfRow tells the chance that as many rolls as a list has numbers are these.
func chanceOfRow(d die, row []int) *big.Rat {
	chance := ratio(1, 1)
	for _, number := range row {
		chance.Mul(chance, chanceFor(d, number))
	}
	return chance
}

// eachRow calls a function with each list of so many numbers of a die, and the ways in which they
// are rolled.
func eachRow(d die, size int, call func(row []int, ways int)) {
	row := make([]int, size)
	numbers := facesOf(d)
	var fill func(place, ways int)
	fill = func(place, ways int) {
		if place == size {
			call(row, ways)
			return
		}
		for _, number := range numbers {
			row[place] = number
			fill(place+1, ways*waysFor(d, number))
		}
	}
	fill(0, 1)
}

// chanceOfAllRows tells the chance that it is so for the list of so many rolls.
func chanceOfAllRows(d die, size int, isSo func(row []int) bool) [2]int {
	so, all := 0, 0
	eachRow(d, size, func(row []int, ways int) {
		all += ways
		if isSo(row) {
			so += ways
		}
	})
	return fraction(ratio(so, all))
}

// rollsToTry tells how many rolls of a die are few enough for all their lists.
func rollsToTry(d die) int { return []int{0, 12, 10, 7, 6, 5, 5}[len(facesOf(d))] }

// comesIn tells whether a list of rolls has a phrase as a stretch.
func comesIn(row, phrase []int) bool {
	for first := 0; first+len(phrase) <= len(row); first++ {
		if slices.Equal(row[first:first+len(phrase)], phrase) {
			return true
		}
	}
	return false
}

// somePhrases are phrases of a die: short ones, those of one number, those that overlap
// themselves, and others of all lengths.
func somePhrases(d die, seed, size int) [][]int {
	numbers := facesOf(d)
	first, last := numbers[0], numbers[len(numbers)-1]
	phrases := [][]int{{first}, {last}, {first, first}, {first, last}, {last, first, last}, {first, last, first, last}, {first, first, last, first, first},
		{last, last, last, last, last, last}, {first, last, first, last, first, last}, {first, first, last, first, first, last}, {first, first, first, first, first, last}}
	row := someNumbers(seed)
	for i := range size {
		var phrase []int
		for range 1 + i%6 {
			phrase = append(phrase, numbers[row.below(len(numbers))])
		}
		phrases = append(phrases, phrase)
	}
	return phrases
}

// noPhrases are lists that are no phrases of a die.
func noPhrases(d die) [][]int {
	number := d[0]
	lists := [][]int{nil, {}, slices.Repeat([]int{number}, 7), slices.Repeat([]int{number}, 8), slices.Repeat([]int{number}, 1000), make([]int, 100000)}
	others := append(otherNumbers(0, 30), 31)
	for other := range 31 {
		if waysFor(d, other) == 0 {
			others = append(others, other)
		}
	}
	for _, other := range others {
		lists = append(lists, []int{other}, []int{other, number}, []int{number, other}, []int{number, other, number}, []int{number, number, number, number, number, other})
	}
	return lists
}

func TestWaitLimits(t *testing.T) {
	if impl.MaxBursts != 3 || impl.MaxRolls != 12 || impl.MaxPhrase != 6 {
		t.Error("limits", impl.MaxBursts, impl.MaxRolls, impl.MaxPhrase)
	}
}

// burst tells what is added of a list of rolls of a die.
func burst(d die, roll []int) int {
	sum := 0
	for _, face := range roll {
		sum += face
		if face != d[5] {
			break
		}
	}
	return sum
}

func TestBurstTableAgainstAllRolls(t *testing.T) {
	for _, d := range waiters() {
		for n := range 4 {
			var want [121]int
			p := slices.Repeat(pool{d}, n+1)
			eachRoll(p, func(roll []int) { want[burst(d, roll)]++ })
			got, ok := impl.BurstTable(d, n)
			if !ok || got != want || sumOf(got[:]) != outcomes(p) {
				t.Error("BurstTable", d, n, got, ok, want)
			}
		}
		table, ok := impl.BurstTable(d, 0)
		sums, _ := impl.SumTable(pool{d})
		if !ok || table != sums {
			t.Error("BurstTable of 0 is not SumTable", d, table, sums)
		}
	}
}

func TestKnownBursts(t *testing.T) {
	cases := []struct {
		d    die
		n    int
		want map[int]int
	}{
		{ordinary, 0, map[int]int{1: 1, 2: 1, 3: 1, 4: 1, 5: 1, 6: 1}},
		{ordinary, 1, map[int]int{1: 6, 2: 6, 3: 6, 4: 6, 5: 6, 7: 1, 8: 1, 9: 1, 10: 1, 11: 1, 12: 1}},
		{coin, 2, map[int]int{1: 108, 3: 54, 5: 27, 6: 27}}, {loads, 1, map[int]int{1: 6, 3: 5, 4: 25}},
		{alone(30), 0, map[int]int{30: 6}}, {alone(30), 1, map[int]int{60: 36}}, {alone(30), 3, map[int]int{120: 1296}}, {alone(0), 0, map[int]int{0: 6}}, {alone(0), 3, map[int]int{0: 1296}},
		{die{0, 0, 0, 0, 0, 30}, 3, map[int]int{0: 1080, 30: 180, 60: 30, 90: 5, 120: 1}}, {die{0, 30, 30, 30, 30, 30}, 3, map[int]int{0: 216, 30: 180, 60: 150, 90: 125, 120: 625}},
	}
	for _, c := range cases {
		var want [121]int
		for sum, ways := range c.want {
			want[sum] = ways
		}
		if got, ok := impl.BurstTable(c.d, c.n); !ok || got != want {
			t.Error("BurstTable", c, got, ok)
		}
	}
}

func TestBurstMean(t *testing.T) {
	for _, d := range waiters() {
		got, ok := impl.BurstMean(d)
		if d[0] == d[5] {
			if ok || got != [2]int{} {
				t.Error("BurstMean without an end", d, got, ok)
			}
			continue
		}
		if !ok {
			t.Fatal("BurstMean", d)
		}
		// Behind a burst all is as before: the mean is that of a face and the chance of a burst
		// times itself. With a bound, the last burst of all lacks what comes of it.
		middle, chance := asRatio(t, got), chanceFor(d, d[5])
		face := mean(pool{d}, func(roll []int) *big.Rat { return ratio(roll[0], 1) })
		if again := face.Add(face, new(big.Rat).Mul(chance, middle)); again.Cmp(middle) != 0 {
			t.Error("BurstMean", d, got, again)
		}
		lacks := new(big.Rat).Set(middle)
		for n := range 4 {
			lacks.Mul(lacks, chance)
			table, _ := impl.BurstTable(d, n)
			ways, sum := 0, 0
			for number, of := range table {
				ways += of
				sum += number * of
			}
			if bounded := ratio(sum, ways); bounded.Add(bounded, lacks).Cmp(middle) != 0 {
				t.Error("BurstMean is not that of BurstTable and the rest", d, n, got, bounded)
			}
		}
	}
}

func TestKnownBurstMeans(t *testing.T) {
	cases := []struct {
		d    die
		want [2]int
	}{
		{ordinary, [2]int{21, 5}}, {coin, [2]int{3, 1}}, {loads, [2]int{11, 1}}, {wide, [2]int{8, 1}}, {die{0, 0, 0, 0, 0, 30}, [2]int{6, 1}},
		{die{0, 30, 30, 30, 30, 30}, [2]int{150, 1}}, {die{0, 0, 0, 0, 0, 1}, [2]int{1, 5}}, {die{1, 1, 1, 1, 1, 6}, [2]int{11, 5}}, {die{1, 1, 2, 2, 3, 3}, [2]int{3, 1}},
	}
	for _, c := range cases {
		if got, ok := impl.BurstMean(c.d); !ok || got != c.want {
			t.Error("BurstMean", c, got, ok)
		}
	}
	for number := range 31 {
		if got, ok := impl.BurstMean(alone(number)); ok || got != [2]int{} {
			t.Error("BurstMean of one number alone", number, got, ok)
		}
	}
}

func TestBurstsThatAreNotValid(t *testing.T) {
	for _, d := range noDice() {
		for n := range 4 {
			if got, ok := impl.BurstTable(d, n); ok || got != [121]int{} {
				t.Error("BurstTable", d, n, got, ok)
			}
		}
		if got, ok := impl.BurstMean(d); ok || got != [2]int{} {
			t.Error("BurstMean", d, got, ok)
		}
	}
	for _, d := range waiters() {
		for _, n := range otherNumbers(0, 3) {
			if got, ok := impl.BurstTable(d, n); ok || got != [121]int{} {
				t.Error("BurstTable", d, n, got, ok)
			}
		}
	}
}

func TestWaitsForNumbers(t *testing.T) {
	one := ratio(1, 1)
	for _, d := range waiters() {
		for number := -3; number < 40; number++ {
			chance := chanceFor(d, number)
			got, ok := impl.MeanWait(d, number)
			if wanted := chance.Sign() > 0; ok != wanted || wanted && got != fraction(new(big.Rat).Inv(chance)) || !wanted && got != [2]int{} {
				t.Error("MeanWait", d, number, got, ok)
			}
			missing := ratio(1, 1)
			for n := range 13 {
				want := new(big.Rat).Sub(one, missing)
				if got, ok := impl.ChanceWithin(d, number, n); !ok || got != fraction(want) {
					t.Error("ChanceWithin", d, number, n, got, ok, want)
				}
				missing.Mul(missing, new(big.Rat).Sub(one, chance))
			}
		}
	}
}

func TestKnownWaits(t *testing.T) {
	cases := []struct {
		d         die
		number, n int
		wait      [2]int
		within    [2]int
	}{
		{ordinary, 6, 2, [2]int{6, 1}, [2]int{11, 36}}, {ordinary, 1, 0, [2]int{6, 1}, [2]int{0, 1}}, {ordinary, 1, 1, [2]int{6, 1}, [2]int{1, 6}},
		{ordinary, 3, 12, [2]int{6, 1}, [2]int{1932641711, 2176782336}}, {loads, 1, 12, [2]int{6, 1}, [2]int{1932641711, 2176782336}}, {loads, 2, 12, [2]int{6, 5}, [2]int{2176782335, 2176782336}},
		{coin, 1, 12, [2]int{2, 1}, [2]int{4095, 4096}}, {wide, 5, 1, [2]int{3, 1}, [2]int{1, 3}}, {wide, 0, 3, [2]int{2, 1}, [2]int{7, 8}}, {wide, 30, 2, [2]int{6, 1}, [2]int{11, 36}},
		{alone(0), 0, 0, [2]int{1, 1}, [2]int{0, 1}}, {alone(0), 0, 1, [2]int{1, 1}, [2]int{1, 1}}, {alone(30), 30, 12, [2]int{1, 1}, [2]int{1, 1}}, {die{2, 3, 3, 3, 3, 30}, 3, 2, [2]int{3, 2}, [2]int{8, 9}},
	}
	for _, c := range cases {
		if got, ok := impl.MeanWait(c.d, c.number); !ok || got != c.wait {
			t.Error("MeanWait", c, got, ok)
		}
		if got, ok := impl.ChanceWithin(c.d, c.number, c.n); !ok || got != c.within {
			t.Error("ChanceWithin", c, got, ok)
		}
	}
}

// The document gives no bounds to the numbers that can be waited for: one that no die has is one
// that the die does not have.
func TestNumbersThatTheDieHasNot(t *testing.T) {
	for _, d := range waiters() {
		for _, number := range otherNumbers(0, 30) {
			if got, ok := impl.MeanWait(d, number); ok || got != [2]int{} {
				t.Error("MeanWait", d, number, got, ok)
			}
			for n := range 13 {
				if got, ok := impl.ChanceWithin(d, number, n); !ok || got != [2]int{0, 1} {
					t.Error("ChanceWithin", d, number, n, got, ok)
				}
			}
		}
	}
}

func TestWaitsThatAreNotValid(t *testing.T) {
	fails := func(d die, number, n int) {
		t.Helper()
		if got, ok := impl.ChanceWithin(d, number, n); ok || got != [2]int{} {
			t.Error("ChanceWithin", d, number, n, got, ok)
		}
		if got, ok := impl.ChanceAll(d, n); ok || got != [2]int{} {
			t.Error("ChanceAll", d, n, got, ok)
		}
	}
	for _, d := range noDice() {
		for _, number := range []int{d[0], d[3], d[5], 1, 31, -1} {
			if got, ok := impl.MeanWait(d, number); ok || got != [2]int{} {
				t.Error("MeanWait", d, number, got, ok)
			}
			for n := range 13 {
				fails(d, number, n)
			}
		}
		if got, ok := impl.MeanAll(d); ok || got != [2]int{} {
			t.Error("MeanAll", d, got, ok)
		}
	}
	for _, d := range waiters() {
		for _, n := range otherNumbers(0, 12) {
			for _, number := range []int{d[0], d[5], 8, 31, -1} {
				fails(d, number, n)
			}
		}
	}
}

// meanUntilAll tells the mean number of rolls until all numbers have come, if those of a set are
// still to come.
func meanUntilAll(d die, missing []int) *big.Rat {
	if len(missing) == 0 {
		return new(big.Rat)
	}
	// Each roll counts, and one of a number that is missing leaves fewer of them.
	rolls, some := ratio(1, 1), new(big.Rat)
	for i, number := range missing {
		chance := chanceFor(d, number)
		some.Add(some, chance)
		rolls.Add(rolls, chance.Mul(chance, meanUntilAll(d, slices.Delete(slices.Clone(missing), i, i+1))))
	}
	return rolls.Quo(rolls, some)
}

// chanceOfAll tells the chance that all numbers of a list come within n rolls, of which each one
// is of one of them or of a number with the other ways.
func chanceOfAll(d die, numbers []int, n, other int) *big.Rat {
	if n < 0 {
		return new(big.Rat)
	}
	if len(numbers) == 0 {
		chance := ratio(1, 1)
		for range n {
			chance.Mul(chance, ratio(other, 6))
		}
		return chance
	}
	// The rolls of the first number are some of them, at least one; all others are the rest.
	sum := new(big.Rat)
	chance := chanceFor(d, numbers[0])
	for rolls := 1; rolls <= n; rolls++ {
		part := new(big.Rat).SetInt(new(big.Int).Binomial(int64(n), int64(rolls)))
		for range rolls {
			part.Mul(part, chance)
		}
		sum.Add(sum, part.Mul(part, chanceOfAll(d, numbers[1:], n-rolls, other)))
	}
	return sum
}

func TestWaitsForAllNumbers(t *testing.T) {
	for _, d := range waiters() {
		numbers := facesOf(d)
		if got, ok := impl.MeanAll(d); !ok || got != fraction(meanUntilAll(d, numbers)) {
			t.Error("MeanAll", d, got, ok)
		}
		last := new(big.Rat)
		for n := range 13 {
			want := chanceOfAll(d, numbers, n, 0)
			got, ok := impl.ChanceAll(d, n)
			if !ok || got != fraction(want) {
				t.Error("ChanceAll", d, n, got, ok, want)
			}
			if chance := asRatio(t, got); chance.Cmp(last) < 0 || (chance.Sign() > 0) != (n >= len(numbers)) {
				t.Error("ChanceAll gets less", d, n, got, last)
			}
			last = asRatio(t, got)
		}
		for n := range rollsToTry(d) + 1 {
			want := chanceOfAllRows(d, n, func(row []int) bool {
				for _, number := range numbers {
					if !slices.Contains(row, number) {
						return false
					}
				}
				return true
			})
			if got, ok := impl.ChanceAll(d, n); !ok || got != want {
				t.Error("ChanceAll of all lists", d, n, got, ok, want)
			}
		}
	}
}

func TestKnownWaitsForAll(t *testing.T) {
	cases := []struct {
		d     die
		mean  [2]int
		n     int
		comes [2]int
	}{
		{ordinary, [2]int{147, 10}, 6, [2]int{5, 324}}, {ordinary, [2]int{147, 10}, 5, [2]int{0, 1}}, {coin, [2]int{3, 1}, 2, [2]int{1, 2}}, {coin, [2]int{3, 1}, 12, [2]int{2047, 2048}},
		{loads, [2]int{31, 5}, 2, [2]int{5, 18}}, {die{1, 1, 2, 2, 3, 3}, [2]int{11, 2}, 3, [2]int{2, 9}}, {wide, [2]int{73, 10}, 3, [2]int{1, 6}}, {ordinary, [2]int{147, 10}, 0, [2]int{0, 1}},
		{alone(0), [2]int{1, 1}, 0, [2]int{0, 1}}, {alone(0), [2]int{1, 1}, 1, [2]int{1, 1}}, {alone(30), [2]int{1, 1}, 12, [2]int{1, 1}}, {ordinary, [2]int{147, 10}, 12, [2]int{1654565, 3779136}},
	}
	for _, c := range cases {
		if got, ok := impl.MeanAll(c.d); !ok || got != c.mean {
			t.Error("MeanAll", c, got, ok)
		}
		if got, ok := impl.ChanceAll(c.d, c.n); !ok || got != c.comes {
			t.Error("ChanceAll", c, got, ok)
		}
	}
}

// overlapFor tells the overlap of two phrases by the document's words.
func overlapFor(d die, a, b []int) *big.Rat {
	sum := new(big.Rat)
	for k := 1; k <= len(a) && k <= len(b); k++ {
		same := true
		for i := range k {
			same = same && a[len(a)-k+i] == b[i]
		}
		if same {
			sum.Add(sum, new(big.Rat).Inv(chanceOfRow(d, b[:k])))
		}
	}
	return sum
}

// solve returns the numbers for which each row's numbers times them are its last number together.
func solve(rows [][]*big.Rat) []*big.Rat {
	for column := range rows {
		pivot := column
		for rows[pivot][column].Sign() == 0 {
			pivot++
		}
		rows[column], rows[pivot] = rows[pivot], rows[column]
		for i, row := range rows {
			if i == column || row[column].Sign() == 0 {
				continue
			}
			times := new(big.Rat).Quo(row[column], rows[column][column])
			for j := column; j < len(row); j++ {
				row[j].Sub(row[j], new(big.Rat).Mul(times, rows[column][j]))
			}
		}
	}
	var result []*big.Rat
	for i, row := range rows {
		result = append(result, new(big.Rat).Quo(row[len(rows)], row[i]))
	}
	return result
}

// A hunt tells of some phrases what their waits are, by all that can have been rolled of them.
type hunt struct {
	d       die
	phrases [][]int
	states  [][]int
}

// newHunt returns the hunt for some phrases.
func newHunt(d die, phrases ...[]int) hunt {
	h := hunt{d: d, phrases: phrases}
	for _, phrase := range phrases {
		for size := range phrase {
			if h.find(phrase[:size]) < 0 {
				h.states = append(h.states, phrase[:size])
			}
		}
	}
	return h
}

// find returns the state that is a list, or -1.
func (h hunt) find(row []int) int {
	return slices.IndexFunc(h.states, func(state []int) bool { return slices.Equal(state, row) })
}

// follow returns the phrase that has come behind one more roll, or -1 and the next state.
func (h hunt) follow(state, number int) (int, int) {
	row := append(slices.Clone(h.states[state]), number)
	for i, phrase := range h.phrases {
		if len(phrase) <= len(row) && slices.Equal(row[len(row)-len(phrase):], phrase) {
			return i, 0
		}
	}
	for h.find(row) < 0 {
		row = row[1:]
	}
	return -1, h.find(row)
}

// solution tells for no roll so far the mean of what each roll adds, and the last one adds when a
// phrase comes.
func (h hunt) solution(perRoll int, atEnd func(phrase int) int) *big.Rat {
	var rows [][]*big.Rat
	for state := range h.states {
		row := make([]*big.Rat, len(h.states)+1)
		for i := range row {
			row[i] = new(big.Rat)
		}
		row[state].SetInt64(1)
		row[len(h.states)].SetInt64(int64(perRoll))
		for _, number := range facesOf(h.d) {
			chance := chanceFor(h.d, number)
			if phrase, next := h.follow(state, number); phrase >= 0 {
				row[len(h.states)].Add(row[len(h.states)], chance.Mul(chance, ratio(atEnd(phrase), 1)))
			} else {
				row[next].Sub(row[next], chance)
			}
		}
		rows = append(rows, row)
	}
	return solve(rows)[h.find(nil)]
}

// within tells the ways in which a phrase of the hunt has come within n rolls.
func (h hunt) within(n int) [2]int {
	come, chances := new(big.Rat), make([]*big.Rat, len(h.states))
	chances[h.find(nil)] = ratio(1, 1)
	for range n {
		next := make([]*big.Rat, len(h.states))
		for state, chance := range chances {
			if chance == nil {
				continue
			}
			for _, number := range facesOf(h.d) {
				part := new(big.Rat).Mul(chance, chanceFor(h.d, number))
				phrase, to := h.follow(state, number)
				switch {
				case phrase >= 0:
					come.Add(come, part)
				case next[to] == nil:
					next[to] = part
				default:
					next[to].Add(next[to], part)
				}
			}
		}
		chances = next
	}
	return fraction(come)
}

func TestWaitsForPhrases(t *testing.T) {
	for i, d := range waiters() {
		for _, phrase := range somePhrases(d, 30+i, 18) {
			want := newHunt(d, phrase).solution(1, func(int) int { return 0 })
			got, ok := impl.PhraseWait(d, phrase)
			overlap, okOverlap := impl.PhraseOverlap(d, phrase, phrase)
			if !ok || got != fraction(want) || !okOverlap || overlap != got {
				t.Error("PhraseWait", d, phrase, got, ok, overlap, okOverlap, want)
			}
			if wait, ok := impl.MeanWait(d, phrase[0]); len(phrase) == 1 && (!ok || wait != got) {
				t.Error("MeanWait is not PhraseWait of a phrase of one number", d, phrase, wait, got)
			}
		}
	}
}

func TestOverlapsOfPhrases(t *testing.T) {
	for i, d := range waiters() {
		phrases := somePhrases(d, 60+i, 12)
		for _, a := range phrases {
			for _, b := range phrases {
				if got, ok := impl.PhraseOverlap(d, a, b); !ok || got != fraction(overlapFor(d, a, b)) {
					t.Error("PhraseOverlap", d, a, b, got, ok)
				}
			}
		}
	}
}

func TestKnownPhraseWaits(t *testing.T) {
	cases := []struct {
		d      die
		phrase []int
		want   [2]int
	}{
		{ordinary, []int{6}, [2]int{6, 1}}, {ordinary, []int{6, 6}, [2]int{42, 1}}, {ordinary, []int{1, 6}, [2]int{36, 1}}, {ordinary, []int{1, 2, 1}, [2]int{222, 1}},
		{ordinary, []int{5, 5, 5, 5, 5, 5}, [2]int{55986, 1}}, {ordinary, []int{1, 2, 3, 4, 5, 6}, [2]int{46656, 1}}, {ordinary, []int{1, 2, 1, 2, 1, 2}, [2]int{47988, 1}},
		{coin, []int{1, 2}, [2]int{4, 1}}, {coin, []int{2, 2}, [2]int{6, 1}}, {coin, []int{1, 2, 1, 1, 2, 1}, [2]int{74, 1}}, {coin, []int{1, 1, 1, 1, 1, 1}, [2]int{126, 1}},
		{loads, []int{2}, [2]int{6, 5}}, {loads, []int{2, 2, 2, 2, 2, 2}, [2]int{6*15625 + 36*3125 + 216*625 + 1296*125 + 7776*25 + 46656*5, 5 * 15625}}, {loads, []int{1, 2, 1}, [2]int{246, 5}},
		{alone(0), []int{0}, [2]int{1, 1}}, {alone(9), []int{9, 9, 9, 9}, [2]int{4, 1}}, {alone(30), []int{30, 30, 30, 30, 30, 30}, [2]int{6, 1}}, {wide, []int{5, 0, 5}, [2]int{21, 1}},
	}
	for _, c := range cases {
		if got, ok := impl.PhraseWait(c.d, c.phrase); !ok || got != fraction(ratio(c.want[0], c.want[1])) {
			t.Error("PhraseWait", c, got, ok)
		}
	}
}

func TestKnownOverlaps(t *testing.T) {
	cases := []struct {
		d    die
		a, b []int
		want [2]int
	}{
		{ordinary, []int{1, 6}, []int{6, 6}, [2]int{6, 1}}, {ordinary, []int{6, 6}, []int{1, 6}, [2]int{0, 1}}, {ordinary, []int{1, 2, 3}, []int{2, 3, 4}, [2]int{36, 1}},
		{ordinary, []int{2, 3, 4}, []int{1, 2, 3}, [2]int{0, 1}}, {ordinary, []int{1, 1, 1}, []int{1}, [2]int{6, 1}}, {ordinary, []int{1}, []int{1, 1, 1}, [2]int{6, 1}},
		{ordinary, []int{6, 5, 1, 2, 1, 2}, []int{1, 2, 1, 2, 3, 4}, [2]int{1332, 1}}, {ordinary, []int{1, 2}, []int{1, 2, 3}, [2]int{36, 1}}, {ordinary, []int{1, 2, 3}, []int{1, 2}, [2]int{0, 1}},
		{loads, []int{1, 2, 2}, []int{2, 2, 1}, [2]int{66, 25}}, {loads, []int{2, 2, 1}, []int{1, 2, 2}, [2]int{6, 1}}, {alone(7), []int{7, 7}, []int{7, 7, 7, 7, 7, 7}, [2]int{2, 1}},
		{alone(7), []int{7, 7, 7, 7, 7, 7}, []int{7, 7, 7}, [2]int{3, 1}}, {wide, []int{30, 0, 5}, []int{0, 5, 0}, [2]int{6, 1}}, {ordinary, []int{3}, []int{4}, [2]int{0, 1}},
	}
	for _, c := range cases {
		if got, ok := impl.PhraseOverlap(c.d, c.a, c.b); !ok || got != c.want {
			t.Error("PhraseOverlap", c, got, ok)
		}
	}
}

func TestFirstOfTwoPhrases(t *testing.T) {
	one := ratio(1, 1)
	stretches, firsts := 0, 0
	for i, d := range waiters() {
		phrases := somePhrases(d, 90+i, 6)
		for _, a := range phrases {
			for _, b := range phrases {
				got, ok := impl.PhraseFirst(d, a, b)
				if comesIn(a, b) || comesIn(b, a) {
					stretches++
					if ok || got != [2]int{} {
						t.Error("PhraseFirst of a stretch", d, a, b, got, ok)
					}
					continue
				}
				firsts++
				want := newHunt(d, a, b).solution(0, func(phrase int) int { return 1 - phrase })
				if !ok || got != fraction(want) {
					t.Fatal("PhraseFirst", d, a, b, got, ok, want)
				}
				other, okOther := impl.PhraseFirst(d, b, a)
				if together := new(big.Rat).Add(asRatio(t, got), asRatio(t, other)); !okOther || together.Cmp(one) != 0 {
					t.Error("PhraseFirst of both orders", d, a, b, got, other)
				}
			}
		}
	}
	if stretches < 500 || firsts < 500 {
		t.Error("few phrases", stretches, firsts)
	}
}

func TestKnownFirstPhrases(t *testing.T) {
	cases := []struct {
		d    die
		a, b []int
		want [2]int
	}{
		{coin, []int{2, 1}, []int{1, 1}, [2]int{3, 4}}, {coin, []int{1, 1}, []int{2, 1}, [2]int{1, 4}}, {coin, []int{1, 2}, []int{2, 1}, [2]int{1, 2}}, {coin, []int{1}, []int{2}, [2]int{1, 2}},
		{coin, []int{2, 1, 1}, []int{1, 1, 2}, [2]int{3, 4}}, {coin, []int{1, 2, 1}, []int{1, 1, 2}, [2]int{1, 3}}, {coin, []int{1, 1, 1}, []int{2, 1, 1}, [2]int{1, 8}},
		{coin, []int{1, 1, 1, 1, 1, 1}, []int{2}, [2]int{1, 64}}, {coin, []int{2, 1, 1, 1, 1, 1}, []int{1, 1, 1, 1, 1, 1}, [2]int{63, 64}}, {coin, []int{1, 1}, []int{2, 2, 2}, [2]int{7, 10}},
		{loads, []int{1}, []int{2}, [2]int{1, 6}}, {loads, []int{2}, []int{1}, [2]int{5, 6}}, {loads, []int{2, 1}, []int{1, 2}, [2]int{5, 6}}, {loads, []int{1, 1}, []int{2, 1}, [2]int{1, 36}},
		{ordinary, []int{1}, []int{2, 2}, [2]int{7, 8}}, {ordinary, []int{3, 4}, []int{5, 6}, [2]int{1, 2}}, {wide, []int{30}, []int{0, 5}, [2]int{1, 2}},
	}
	for _, c := range cases {
		if got, ok := impl.PhraseFirst(c.d, c.a, c.b); !ok || got != c.want {
			t.Error("PhraseFirst", c, got, ok)
		}
	}
	stretches := [][2][]int{
		{{6}, {6}}, {{6}, {1, 6}}, {{6}, {6, 1}}, {{6}, {1, 6, 1}}, {{1, 6}, {1, 6}}, {{1, 6}, {1, 1, 6, 1, 2, 3}}, {{2, 3}, {1, 1, 6, 1, 2, 3}}, {{1, 1}, {1, 1, 6, 1, 2, 3}},
		{{1, 2, 3, 4, 5, 6}, {1, 2, 3, 4, 5, 6}}, {{2, 3, 4, 5, 6}, {1, 2, 3, 4, 5, 6}}, {{1, 2, 3, 4, 5}, {1, 2, 3, 4, 5, 6}}, {{1, 1}, {1, 1, 1}}, {{1, 2, 1}, {1, 1, 2, 1, 2}},
	}
	for _, s := range stretches {
		for _, turned := range [][2][]int{s, {s[1], s[0]}} {
			if got, ok := impl.PhraseFirst(ordinary, turned[0], turned[1]); ok || got != [2]int{} {
				t.Error("PhraseFirst of a stretch", turned, got, ok)
			}
		}
	}
	for size := 1; size <= 6; size++ {
		for other := 1; other <= 6; other++ {
			if got, ok := impl.PhraseFirst(alone(4), slices.Repeat([]int{4}, size), slices.Repeat([]int{4}, other)); ok || got != [2]int{} {
				t.Error("PhraseFirst of one number alone", size, other, got, ok)
			}
		}
	}
	// The numbers of one phrase are in the other one, but not one behind the other.
	for _, apart := range [][2][]int{{{1, 3}, {1, 2, 3}}, {{1, 1}, {1, 2, 1}}, {{2, 1}, {1, 2}}, {{1, 2, 2}, {1, 2, 1, 2}}} {
		if _, ok := impl.PhraseFirst(ordinary, apart[0], apart[1]); !ok {
			t.Error("PhraseFirst of two that are no stretches", apart)
		}
	}
}

func TestPhraseWithin(t *testing.T) {
	for i, d := range waiters() {
		for _, phrase := range somePhrases(d, 120+i, 12) {
			h := newHunt(d, phrase)
			for n := range 13 {
				want := h.within(n)
				got, ok := impl.PhraseWithin(d, phrase, n)
				if !ok || got != want || n == len(phrase) && got != fraction(chanceOfRow(d, phrase)) || n < len(phrase) && got != [2]int{0, 1} {
					t.Error("PhraseWithin", d, phrase, n, got, ok, want)
				}
				if of, ok := impl.ChanceWithin(d, phrase[0], n); len(phrase) == 1 && (!ok || of != got) {
					t.Error("ChanceWithin is not PhraseWithin of a phrase of one number", d, phrase, n, of, got)
				}
			}
		}
	}
}

func TestPhraseWithinAgainstAllRows(t *testing.T) {
	for i, d := range []die{ordinary, coin, loads, wide, {1, 1, 1, 2, 2, 3}, {1, 1, 2, 3, 4, 4}, alone(0), alone(30)} {
		for _, phrase := range somePhrases(d, 150+i, 12) {
			for n := range rollsToTry(d) + 1 {
				want := chanceOfAllRows(d, n, func(row []int) bool { return comesIn(row, phrase) })
				if got, ok := impl.PhraseWithin(d, phrase, n); !ok || got != want {
					t.Error("PhraseWithin", d, phrase, n, got, ok, want)
				}
			}
		}
	}
}

func TestKnownPhrasesWithin(t *testing.T) {
	cases := []struct {
		d      die
		phrase []int
		n      int
		want   [2]int
	}{
		{ordinary, []int{6, 6}, 0, [2]int{0, 1}}, {ordinary, []int{6, 6}, 1, [2]int{0, 1}}, {ordinary, []int{6, 6}, 2, [2]int{1, 36}}, {ordinary, []int{6, 6}, 3, [2]int{11, 216}},
		{ordinary, []int{1, 6}, 3, [2]int{1, 18}}, {coin, []int{1, 1, 1, 1, 1, 1}, 12, [2]int{1, 16}}, {coin, []int{1, 2, 1, 2}, 6, [2]int{11, 64}}, {coin, []int{1, 1, 2, 1}, 5, [2]int{1, 8}},
		{coin, []int{1, 1, 2}, 4, [2]int{1, 4}}, {coin, []int{1, 1, 1}, 4, [2]int{3, 16}}, {ordinary, []int{1, 2, 3, 4, 5, 6}, 6, [2]int{1, 46656}}, {ordinary, []int{1, 2, 3, 4, 5, 6}, 12, [2]int{326591, 2176782336}},
		{alone(0), []int{0}, 0, [2]int{0, 1}}, {alone(0), []int{0}, 1, [2]int{1, 1}}, {alone(30), []int{30, 30, 30, 30, 30, 30}, 5, [2]int{0, 1}}, {alone(30), []int{30, 30, 30, 30, 30, 30}, 6, [2]int{1, 1}},
		{alone(30), []int{30, 30}, 12, [2]int{1, 1}}, {loads, []int{2, 2}, 3, [2]int{175, 216}}, {wide, []int{0, 5, 0}, 3, [2]int{1, 12}}, {coin, []int{1, 1, 2, 1, 1, 1}, 9, [2]int{1, 16}},
	}
	for _, c := range cases {
		if got, ok := impl.PhraseWithin(c.d, c.phrase, c.n); !ok || got != fraction(ratio(c.want[0], c.want[1])) {
			t.Error("PhraseWithin", c, got, ok)
		}
	}
}

// phraseFails checks that nothing is told of a phrase.
func phraseFails(t *testing.T, d die, phrase []int, n int) {
	t.Helper()
	if got, ok := impl.PhraseWait(d, phrase); ok || got != [2]int{} {
		t.Error("PhraseWait", d, phrase, got, ok)
	}
	if got, ok := impl.PhraseWithin(d, phrase, n); ok || got != [2]int{} {
		t.Error("PhraseWithin", d, phrase, n, got, ok)
	}
}

// phrasesFail checks that nothing is told of two phrases.
func phrasesFail(t *testing.T, d die, a, b []int) {
	t.Helper()
	if got, ok := impl.PhraseOverlap(d, a, b); ok || got != [2]int{} {
		t.Error("PhraseOverlap", d, a, b, got, ok)
	}
	if got, ok := impl.PhraseFirst(d, a, b); ok || got != [2]int{} {
		t.Error("PhraseFirst", d, a, b, got, ok)
	}
}

func TestPhrasesThatAreNotValid(t *testing.T) {
	for _, d := range noDice() {
		for _, phrase := range [][]int{{1}, {d[0]}, {d[5]}, {d[0], d[5]}, {d[0], d[1], d[2], d[3], d[4], d[5]}} {
			for n := range 13 {
				phraseFails(t, d, phrase, n)
			}
			phrasesFail(t, d, phrase, phrase)
			phrasesFail(t, d, phrase, []int{d[2], d[2]})
		}
	}
	for _, d := range waiters() {
		number := d[5]
		for _, phrase := range noPhrases(d) {
			phraseFails(t, d, phrase, 2)
			phraseFails(t, d, phrase, 12)
			phrasesFail(t, d, phrase, []int{number})
			phrasesFail(t, d, []int{number}, phrase)
			phrasesFail(t, d, phrase, phrase)
			phrasesFail(t, d, []int{number, number, number, number, number, number}, phrase)
		}
		for _, n := range otherNumbers(0, 12) {
			for _, phrase := range [][]int{{number}, {d[0], number}, {number, number, number, number, number, number}} {
				if got, ok := impl.PhraseWithin(d, phrase, n); ok || got != [2]int{} {
					t.Error("PhraseWithin", d, phrase, n, got, ok)
				}
			}
		}
	}
}

// longestRun tells the greatest number of rolls one behind the other that are the same number.
func longestRun(row []int) int {
	longest := 0
	for first := range row {
		last := first
		for last < len(row) && row[last] == row[first] {
			last++
		}
		longest = max(longest, last-first)
	}
	return longest
}

// A runner tells the chances of rolls that have no k rolls one behind the other that are the same
// number.
type runner struct {
	d     die
	k     int
	known map[[2]int]*big.Rat
}

// chance tells the chance of n such rolls of which the first one is not a number.
func (r runner) chance(n, number int) *big.Rat {
	if n == 0 {
		return ratio(1, 1)
	}
	key := [2]int{n, number}
	if r.known[key] == nil {
		sum := new(big.Rat)
		for _, other := range facesOf(r.d) {
			part := ratio(1, 1)
			for size := 1; size <= n && size < r.k && other != number; size++ {
				part.Mul(part, chanceFor(r.d, other))
				sum.Add(sum, new(big.Rat).Mul(part, r.chance(n-size, other)))
			}
		}
		r.known[key] = sum
	}
	return r.known[key]
}

func TestRunWithin(t *testing.T) {
	one := ratio(1, 1)
	for _, d := range waiters() {
		for k := 1; k <= 12; k++ {
			r := runner{d: d, k: k, known: map[[2]int]*big.Rat{}}
			for n := range 13 {
				want := fraction(new(big.Rat).Sub(one, r.chance(n, -1)))
				if got, ok := impl.RunWithin(d, k, n); !ok || got != want || n < k && got != [2]int{0, 1} {
					t.Error("RunWithin", d, k, n, got, ok, want)
				}
			}
		}
	}
}

func TestRunWithinAgainstAllRows(t *testing.T) {
	for _, d := range []die{ordinary, coin, loads, wide, {1, 1, 2, 3, 4, 4}, {0, 0, 0, 0, 0, 30}, alone(0), alone(30)} {
		for n := range rollsToTry(d) + 1 {
			for k := 1; k <= 12; k++ {
				want := chanceOfAllRows(d, n, func(row []int) bool { return longestRun(row) >= k })
				if got, ok := impl.RunWithin(d, k, n); !ok || got != want {
					t.Error("RunWithin", d, k, n, got, ok, want)
				}
			}
		}
	}
}

func TestKnownRunsWithin(t *testing.T) {
	cases := []struct {
		d    die
		k, n int
		want [2]int
	}{
		{ordinary, 1, 0, [2]int{0, 1}}, {ordinary, 1, 1, [2]int{1, 1}}, {ordinary, 1, 12, [2]int{1, 1}}, {ordinary, 2, 0, [2]int{0, 1}}, {ordinary, 2, 1, [2]int{0, 1}}, {ordinary, 2, 2, [2]int{1, 6}},
		{ordinary, 2, 3, [2]int{11, 36}}, {ordinary, 3, 3, [2]int{1, 36}}, {ordinary, 12, 12, [2]int{1, 362797056}}, {ordinary, 12, 11, [2]int{0, 1}}, {coin, 2, 12, [2]int{2047, 2048}},
		{coin, 12, 12, [2]int{1, 2048}}, {coin, 3, 4, [2]int{3, 8}}, {loads, 2, 2, [2]int{13, 18}}, {loads, 12, 12, [2]int{122070313, 1088391168}}, {wide, 2, 2, [2]int{7, 18}},
		{alone(0), 1, 0, [2]int{0, 1}}, {alone(0), 12, 11, [2]int{0, 1}}, {alone(0), 12, 12, [2]int{1, 1}}, {alone(30), 5, 4, [2]int{0, 1}}, {alone(30), 5, 5, [2]int{1, 1}}, {alone(30), 1, 12, [2]int{1, 1}},
		{die{0, 0, 0, 1, 1, 1}, 2, 2, [2]int{1, 2}}, {die{0, 0, 0, 1, 1, 1}, 1, 1, [2]int{1, 1}}, {die{0, 0, 0, 1, 1, 1}, 3, 4, [2]int{3, 8}},
	}
	for _, c := range cases {
		if got, ok := impl.RunWithin(c.d, c.k, c.n); !ok || got != c.want {
			t.Error("RunWithin", c, got, ok)
		}
	}
}

func TestRunsThatAreNotValid(t *testing.T) {
	fails := func(d die, k, n int) {
		t.Helper()
		if got, ok := impl.RunWithin(d, k, n); ok || got != [2]int{} {
			t.Error("RunWithin", d, k, n, got, ok)
		}
	}
	for _, d := range noDice() {
		for k := 1; k <= 12; k++ {
			for n := range 13 {
				fails(d, k, n)
			}
		}
	}
	for _, d := range waiters() {
		for _, k := range otherNumbers(1, 12) {
			for n := range 13 {
				fails(d, k, n)
			}
			fails(d, k, k)
		}
		for _, n := range otherNumbers(0, 12) {
			for k := 1; k <= 12; k++ {
				fails(d, k, n)
			}
		}
	}
}

func TestPhrasesOf(t *testing.T) {
	for _, d := range waiters() {
		for length := 1; length <= 3; length++ {
			var want [][]int
			eachRow(d, length, func(row []int, _ int) { want = append(want, slices.Clone(row)) })
			got, ok := impl.PhrasesOf(d, length)
			if !ok || !sameLists(got, want) || !slices.IsSortedFunc(got, slices.Compare) {
				t.Error("PhrasesOf", d, length, got, ok, want)
			}
			chances := new(big.Rat)
			for _, phrase := range got {
				if _, ok := impl.PhraseWait(d, phrase); !ok {
					t.Error("PhrasesOf has a list that is no phrase", d, phrase)
				}
				chance, _ := impl.PhraseWithin(d, phrase, length)
				chances.Add(chances, asRatio(t, chance))
			}
			if fraction(chances) != [2]int{1, 1} {
				t.Error("the chances of PhrasesOf are together", d, length, chances)
			}
		}
		for _, length := range append(otherNumbers(1, 3), 4, 5, 6, 7, 12) {
			if got, ok := impl.PhrasesOf(d, length); ok || len(got) != 0 {
				t.Error("PhrasesOf", d, length, got, ok)
			}
		}
	}
	for _, d := range noDice() {
		for length := range 5 {
			if got, ok := impl.PhrasesOf(d, length); ok || len(got) != 0 {
				t.Error("PhrasesOf", d, length, got, ok)
			}
		}
	}
}

func TestKnownPhrasesOf(t *testing.T) {
	cases := []struct {
		d      die
		length int
		want   [][]int
	}{
		{coin, 1, [][]int{{1}, {2}}}, {coin, 2, [][]int{{1, 1}, {1, 2}, {2, 1}, {2, 2}}}, {ordinary, 1, [][]int{{1}, {2}, {3}, {4}, {5}, {6}}},
		{coin, 3, [][]int{{1, 1, 1}, {1, 1, 2}, {1, 2, 1}, {1, 2, 2}, {2, 1, 1}, {2, 1, 2}, {2, 2, 1}, {2, 2, 2}}},
		{wide, 2, [][]int{{0, 0}, {0, 5}, {0, 30}, {5, 0}, {5, 5}, {5, 30}, {30, 0}, {30, 5}, {30, 30}}}, {alone(0), 1, [][]int{{0}}}, {alone(30), 3, [][]int{{30, 30, 30}}},
	}
	for _, c := range cases {
		if got, ok := impl.PhrasesOf(c.d, c.length); !ok || !sameLists(got, c.want) {
			t.Error("PhrasesOf", c, got, ok)
		}
	}
	for length, size := range []int{0, 6, 36, 216} {
		if got, _ := impl.PhrasesOf(ordinary, length); len(got) != size {
			t.Error("PhrasesOf", length, len(got))
		}
	}
}

func TestArgumentsAreLeftByChapter8(t *testing.T) {
	whole, other := []int{1, 2, 1, 1, 2, 1, 1, 2, 2}, []int{2, 1, 2, 9, -1, 1}
	kept, keptOther := slices.Clone(whole), slices.Clone(other)
	for _, d := range append(noDice(), ordinary, coin, loads, alone(1), wide) {
		for size := range len(whole) + 1 {
			impl.PhraseWait(d, whole[:size])
			for n := -1; n <= 13; n++ {
				impl.PhraseWithin(d, whole[:size], n)
			}
			for rest := range len(other) + 1 {
				impl.PhraseOverlap(d, whole[:size], other[:rest])
				impl.PhraseOverlap(d, other[:rest], whole[:size])
				impl.PhraseFirst(d, whole[:size], other[:rest])
				impl.PhraseFirst(d, other[:rest], whole[:size])
			}
		}
		if !slices.Equal(whole, kept) || !slices.Equal(other, keptOther) {
			t.Fatal("the arguments became", whole, other)
		}
	}
}

func TestResultsOfChapter8AreNew(t *testing.T) {
	for _, d := range []die{ordinary, coin, alone(30)} {
		for length := 1; length <= 3; length++ {
			first, _ := impl.PhrasesOf(d, length)
			second, _ := impl.PhrasesOf(d, length)
			if !shareNothing(slices.Concat(first, second)) {
				t.Error("lists of PhrasesOf share memory", d, length)
			}
			wanted, _ := impl.PhrasesOf(d, length)
			again, _ := impl.PhrasesOf(d, length)
			clear(wanted[:cap(wanted)])
			var want [][]int
			eachRow(d, length, func(row []int, _ int) { want = append(want, slices.Clone(row)) })
			if !sameLists(again, want) {
				t.Error("PhrasesOf keeps what it has returned", d, length, again)
			}
		}
	}
}
