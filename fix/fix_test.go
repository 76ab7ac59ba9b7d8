package fix_test

import (
	"math"
	"math/big"
	"testing"

	"hibernacle/fix"
)

const (
	least    = math.MinInt
	greatest = math.MaxInt
)

// edges are numbers around which something turns: the ends of the range,
// halves of its bits, squares, and the small ones.
func edges() []int {
	const root = 3037000499 // the greatest number whose square fits
	list := []int{least, least + 1, least + 2, least / 2, least/2 - 1, least/2 + 1, greatest, greatest - 1, greatest - 2, greatest / 2, greatest/2 + 1}
	for n := -12; n <= 12; n++ {
		list = append(list, n)
	}
	for _, n := range []int{97, 1000, 1 << 31, 1 << 32, 1 << 62, 1000000007, root, root * root} {
		for near := -1; near <= 1; near++ {
			list = append(list, n+near, -n+near)
		}
	}
	return list
}

// mixed are numbers of all sizes, the same ones each time.
func mixed(count int) []int {
	list := make([]int, 0, count)
	state := uint64(88172645463325252)
	for i := range count {
		state ^= state << 13
		state ^= state >> 7
		state ^= state << 17
		list = append(list, int(state)>>(i%64))
	}
	return list
}

func pairs() [][2]int {
	var list [][2]int
	for _, a := range edges() {
		for _, b := range edges() {
			list = append(list, [2]int{a, b})
		}
	}
	numbers := mixed(20000)
	for i := range len(numbers) - 1 {
		list = append(list, [2]int{numbers[i], numbers[i+1]})
	}
	return list
}

func large(n int) *big.Int { return big.NewInt(int64(n)) }

// fitting is what a checked call answers where the whole answer is wide; nil
// stands for one that isn't there.
func fitting(wide *big.Int) (int, bool) {
	if wide == nil || !wide.IsInt64() {
		return 0, false
	}
	return int(wide.Int64()), true
}

type ofTwo struct {
	name string
	call func(a, b int) (int, bool)
	wide func(a, b *big.Int) *big.Int
}

func checkOfTwo(t *testing.T, calls []ofTwo) {
	t.Helper()
	for _, c := range calls {
		for _, p := range pairs() {
			got, ok := c.call(p[0], p[1])
			want, fits := fitting(c.wide(large(p[0]), large(p[1])))
			if got != want || ok != fits {
				t.Fatalf("%s(%d, %d): %d %t, asked for %d %t", c.name, p[0], p[1], got, ok, want, fits)
			}
		}
	}
}

// 1.1: sums, differences and products fit, or are refused.
func TestSums(t *testing.T) {
	checkOfTwo(t, []ofTwo{
		{"Add", fix.Add, func(a, b *big.Int) *big.Int { return new(big.Int).Add(a, b) }},
		{"Sub", fix.Sub, func(a, b *big.Int) *big.Int { return new(big.Int).Sub(a, b) }},
		{"Mul", fix.Mul, func(a, b *big.Int) *big.Int { return new(big.Int).Mul(a, b) }},
	})
}

// 1.1: signs are turned and taken away, but that of -2^63.
func TestSigns(t *testing.T) {
	for _, a := range append(edges(), mixed(2000)...) {
		want, fits := fitting(new(big.Int).Neg(large(a)))
		if got, ok := fix.Neg(a); got != want || ok != fits {
			t.Fatalf("Neg(%d): %d %t", a, got, ok)
		}
		want, fits = fitting(new(big.Int).Abs(large(a)))
		if got, ok := fix.Abs(a); got != want || ok != fits {
			t.Fatalf("Abs(%d): %d %t", a, got, ok)
		}
	}
}

func wideMod(a, b *big.Int) *big.Int {
	if b.Sign() == 0 {
		return nil
	}
	rest := new(big.Int).Rem(a, b)
	if rest.Sign()*b.Sign() < 0 {
		rest.Add(rest, b)
	}
	return rest
}

// 1.1: quotients, remainders and moduli; none of a divisor 0.
func TestQuotients(t *testing.T) {
	checkOfTwo(t, []ofTwo{
		{"Quo", fix.Quo, func(a, b *big.Int) *big.Int {
			if b.Sign() == 0 {
				return nil
			}
			return new(big.Int).Quo(a, b)
		}},
		{"Rem", fix.Rem, func(a, b *big.Int) *big.Int {
			if b.Sign() == 0 {
				return nil
			}
			return new(big.Int).Rem(a, b)
		}},
		{"Mod", fix.Mod, wideMod},
	})
}

// 1.1: the edges that the document names, and its examples, by hand.
func TestEdgesOfSums(t *testing.T) {
	rows := []struct {
		name string
		call func(a, b int) (int, bool)
		a, b int
		want int
		ok   bool
	}{
		{"Add", fix.Add, greatest, 1, 0, false},
		{"Add", fix.Add, least, -1, 0, false},
		{"Add", fix.Add, least, greatest, -1, true},
		{"Add", fix.Add, least, 0, least, true},
		{"Sub", fix.Sub, least, 1, 0, false},
		{"Sub", fix.Sub, 0, least, 0, false},
		{"Sub", fix.Sub, -1, least, greatest, true},
		{"Sub", fix.Sub, least, least, 0, true},
		{"Mul", fix.Mul, least, -1, 0, false},
		{"Mul", fix.Mul, -1, least, 0, false},
		{"Mul", fix.Mul, least, 1, least, true},
		{"Mul", fix.Mul, 1 << 62, -2, least, true},
		{"Mul", fix.Mul, 1 << 62, 2, 0, false},
		{"Mul", fix.Mul, 1 << 32, 1 << 32, 0, false},
		{"Mul", fix.Mul, 0, least, 0, true},
		{"Quo", fix.Quo, -7, 2, -3, true},
		{"Quo", fix.Quo, 7, -2, -3, true},
		{"Quo", fix.Quo, least, -1, 0, false},
		{"Quo", fix.Quo, 5, 0, 0, false},
		{"Rem", fix.Rem, -7, 2, -1, true},
		{"Rem", fix.Rem, 7, -2, 1, true},
		{"Rem", fix.Rem, least, -1, 0, true},
		{"Rem", fix.Rem, 5, 0, 0, false},
		{"Mod", fix.Mod, -7, 2, 1, true},
		{"Mod", fix.Mod, 7, -2, -1, true},
		{"Mod", fix.Mod, least, -1, 0, true},
		{"Mod", fix.Mod, least, greatest, greatest - 1, true},
		{"Mod", fix.Mod, -5, 0, 0, false},
	}
	for _, r := range rows {
		if got, ok := r.call(r.a, r.b); got != r.want || ok != r.ok {
			t.Errorf("%s(%d, %d): %d %t, asked for %d %t", r.name, r.a, r.b, got, ok, r.want, r.ok)
		}
	}
}

// 1.2: greatest divisors, not below 0, whatever the signs and the order.
func TestGcd(t *testing.T) {
	checkOfTwo(t, []ofTwo{{"Gcd", fix.Gcd, func(a, b *big.Int) *big.Int {
		return new(big.Int).GCD(nil, nil, new(big.Int).Abs(a), new(big.Int).Abs(b))
	}}})
	rows := []struct {
		a, b, want int
		ok         bool
	}{
		{0, 0, 0, true},
		{0, -6, 6, true},
		{-6, 0, 6, true},
		{12, -18, 6, true},
		{least, 6, 2, true},
		{least, -1, 1, true},
		{least, 0, 0, false},
		{0, least, 0, false},
		{least, least, 0, false},
	}
	for _, r := range rows {
		if got, ok := fix.Gcd(r.a, r.b); got != r.want || ok != r.ok {
			t.Errorf("Gcd(%d, %d): %d %t, asked for %d %t", r.a, r.b, got, ok, r.want, r.ok)
		}
	}
}

// widePower multiplies n times, as the words have it, till it is plain that
// the power doesn't fit.
func widePower(a, n int) *big.Int {
	power := big.NewInt(1)
	for range n {
		power.Mul(power, large(a))
		if power.BitLen() > 64 {
			return nil
		}
	}
	return power
}

// 1.2: powers.
func TestPow(t *testing.T) {
	bases := append(edges(), mixed(500)...)
	for _, a := range bases {
		for n := range 70 {
			got, ok := fix.Pow(a, n)
			want, fits := fitting(widePower(a, n))
			if got != want || ok != fits {
				t.Fatalf("Pow(%d, %d): %d %t, asked for %d %t", a, n, got, ok, want, fits)
			}
		}
	}
}

// 1.2: powers that are 1, that are below 0, and of great n.
func TestEdgesOfPow(t *testing.T) {
	rows := []struct {
		a, n, want int
		ok         bool
	}{
		{0, 0, 1, true},
		{least, 0, 1, true},
		{least, 1, least, true},
		{least, 2, 0, false},
		{-2, 63, least, true},
		{2, 63, 0, false},
		{2, 62, 1 << 62, true},
		{-2, 64, 0, false},
		{0, greatest, 0, true},
		{1, greatest, 1, true},
		{-1, greatest, -1, true},
		{-1, greatest - 1, 1, true},
		{2, greatest, 0, false},
		{2, -1, 0, false},
		{1, -1, 0, false},
		{-1, least, 0, false},
		{0, -1, 0, false},
	}
	for _, r := range rows {
		if got, ok := fix.Pow(r.a, r.n); got != r.want || ok != r.ok {
			t.Errorf("Pow(%d, %d): %d %t, asked for %d %t", r.a, r.n, got, ok, r.want, r.ok)
		}
	}
}

// 1.2: roots, and what is left of them.
func TestRoot(t *testing.T) {
	numbers := append(edges(), mixed(5000)...)
	for _, s := range []int{46340, 46341, 65535, 65536, 1 << 31, 3037000498, 3037000499} {
		numbers = append(numbers, s*s-1, s*s, s*s+1, s*s+2*s)
	}
	for n := range 2000 {
		numbers = append(numbers, n)
	}
	for _, a := range numbers {
		root, left, ok := fix.Root(a)
		if a < 0 {
			if root != 0 || left != 0 || ok {
				t.Fatalf("Root(%d): %d %d %t", a, root, left, ok)
			}
			continue
		}
		want := int(new(big.Int).Sqrt(large(a)).Int64())
		if root != want || left != a-want*want || !ok {
			t.Fatalf("Root(%d): %d %d %t, asked for %d", a, root, left, ok, want)
		}
	}
}

// 1.4: a number is the divisor times the quotient and the remainder; the
// modulus lies between 0 and the divisor.
func TestQuotientAndRest(t *testing.T) {
	for _, p := range pairs() {
		a, b := p[0], p[1]
		if b == 0 {
			continue
		}
		rest, ok := fix.Rem(a, b)
		if !ok {
			t.Fatalf("Rem(%d, %d) isn't there", a, b)
		}
		if quotient, ok := fix.Quo(a, b); ok && quotient*b+rest != a {
			t.Fatalf("%d and %d: quotient %d, remainder %d", a, b, quotient, rest)
		}
		modulus, ok := fix.Mod(a, b)
		between := b < modulus && modulus < 0 || 0 < modulus && modulus < b
		if !ok || modulus != 0 && !between {
			t.Fatalf("Mod(%d, %d): %d %t", a, b, modulus, ok)
		}
	}
}
