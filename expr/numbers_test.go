package expr

import (
	"math"
	"math/big"
	"math/rand/v2"
	"testing"

	"docstore/api"
	"docstore/value"
)

// ints returns ExValues of integers.
func ints(numbers ...int) []api.Expr {
	l := make([]api.Expr, len(numbers))
	for i, n := range numbers {
		l[i] = api.Expr{Op: api.ExValue, Arg: num(n)}
	}
	return l
}

// wrapped returns an integer modulo 2^64, in two's complement.
func wrapped(n *big.Int) int {
	modulus := new(big.Int).Lsh(big.NewInt(1), 64)
	return int(new(big.Int).Mod(n, modulus).Uint64())
}

// floored returns a quotient rounded down: Div rounds down for a positive divisor.
func floored(a, b *big.Int) *big.Int {
	if b.Sign() < 0 {
		a, b = new(big.Int).Neg(a), new(big.Int).Neg(b)
	}
	return new(big.Int).Div(a, b)
}

// edges returns integers at the edges of their range, and small ones.
func edges() []int {
	return []int{
		0, 1, 2, 3, 7, 8, 10, -1, -2, -3, -7, -8, -10, 1 << 31, -1 << 31, 1 << 32, 1<<32 - 1, 1 << 62, -1 << 62, 3037000500, -3037000500,
		math.MaxInt, math.MaxInt - 1, math.MaxInt / 2, math.MinInt, math.MinInt + 1, math.MinInt / 2,
	}
}

// expectArithmetic compares the operators for two integers with calculations that know no limits.
func expectArithmetic(t *testing.T, a, b int) {
	t.Helper()
	x, y := big.NewInt(int64(a)), big.NewInt(int64(b))
	pair := ints(a, b)
	expectValue(t, node(api.ExAdd, pair...), val("{}"), num(wrapped(new(big.Int).Add(x, y))))
	expectValue(t, node(api.ExSub, pair...), val("{}"), num(wrapped(new(big.Int).Sub(x, y))))
	expectValue(t, node(api.ExMul, pair...), val("{}"), num(wrapped(new(big.Int).Mul(x, y))))
	if b == 0 {
		expectValue(t, node(api.ExDiv, pair...), val("{}"), null())
		expectValue(t, node(api.ExMod, pair...), val("{}"), null())
		return
	}
	quotient := floored(x, y)
	expectValue(t, node(api.ExDiv, pair...), val("{}"), num(wrapped(quotient)))
	rest := new(big.Int).Sub(x, new(big.Int).Mul(y, quotient))
	expectValue(t, node(api.ExMod, pair...), val("{}"), num(wrapped(rest)))
	if rest.Sign() != 0 && rest.Sign() != y.Sign() {
		t.Errorf("the test expects %s as %d modulo %d", rest, a, b)
	}
}

// P8.4: arithmetic with integers.
func TestArithmetic(t *testing.T) {
	for _, a := range edges() {
		for _, b := range edges() {
			expectArithmetic(t, a, b)
		}
	}
	for a := -20; a <= 20; a++ {
		for b := -20; b <= 20; b++ {
			expectArithmetic(t, a, b)
		}
	}
	r := rand.New(rand.NewPCG(8, 4))
	for range 2000 {
		expectArithmetic(t, int(r.Uint64()), int(r.Uint64()>>r.IntN(64)))
	}
}

// P8.4: arithmetic as the chapter's examples have it, and with other numbers of operands than two.
func TestArithmeticExamples(t *testing.T) {
	expectValues(t, `{"n":-7}`, []evaluation{
		{`{"$div":["$n",2]}`, `-4`}, {`{"$mod":["$n",2]}`, `1`}, {`{"$div":["$n",-2]}`, `3`}, {`{"$mod":["$n",-2]}`, `-1`},
		{`{"$div":[7,-2]}`, `-4`}, {`{"$mod":[7,-2]}`, `-1`}, {`{"$div":[-8,2]}`, `-4`}, {`{"$mod":[-8,2]}`, `0`}, {`{"$div":[0,-5]}`, `0`}, {`{"$mod":[0,-5]}`, `0`},
		{`{"$div":[-9223372036854775808,-1]}`, `-9223372036854775808`}, {`{"$mod":[-9223372036854775808,-1]}`, `0`},
		{`{"$add":[]}`, `0`}, {`{"$mul":[]}`, `1`}, {`{"$add":["$n"]}`, `-7`}, {`{"$mul":["$n"]}`, `-7`},
		{`{"$add":["$n",1,2,3]}`, `-1`}, {`{"$mul":["$n",1,2,3]}`, `-42`}, {`{"$mul":["$n",0,5]}`, `0`}, {`{"$sub":[5,"$n"]}`, `12`}, {`{"$sub":["$n",5]}`, `-12`},
		{`{"$add":[9223372036854775807,1]}`, `-9223372036854775808`}, {`{"$sub":[-9223372036854775808,1]}`, `9223372036854775807`},
		{`{"$sub":[0,-9223372036854775808]}`, `-9223372036854775808`}, {`{"$sub":[-1,-9223372036854775808]}`, `9223372036854775807`},
		{`{"$mul":[-9223372036854775808,-1]}`, `-9223372036854775808`}, {`{"$mul":[4294967296,4294967296]}`, `0`},
		{`{"$add":[9223372036854775807,9223372036854775807,1,1]}`, `0`},
	})
}

// operands returns expressions for values of every kind, and one for a missing value.
func operands() []api.Expr {
	l := []api.Expr{pathTo("nope")}
	for _, s := range pool() {
		l = append(l, lit(s))
	}
	return l
}

// P8.4: arithmetic with operands of other kinds.
func TestArithmeticOtherKinds(t *testing.T) {
	for _, e := range operands() {
		if e.Arg.Kind == api.KindInt {
			continue
		}
		for op := api.ExAdd; op <= api.ExMod; op++ {
			expectValue(t, node(op, lit("1"), e), val("{}"), null())
			expectValue(t, node(op, e, lit("1")), val("{}"), null())
			expectValue(t, node(op, e, lit("0")), val("{}"), null())
			expectValue(t, node(op, e, e), val("{}"), null())
		}
		for _, op := range []int{api.ExAdd, api.ExMul} {
			expectValue(t, node(op, e), val("{}"), null())
			expectValue(t, node(op, lit("0"), lit("1"), e), val("{}"), null())
		}
	}
}

// P8.4: comparisons of values of all kinds, where a missing value is less than all others.
func TestComparisons(t *testing.T) {
	for _, a := range operands() {
		for _, b := range operands() {
			c := value.Compare(a.Arg, b.Arg) // the argument of a path is the missing value
			if a.Op == api.ExPath && b.Op == api.ExValue && c != -1 {
				t.Errorf("the test expects %d for a missing value and %s", c, show(b.Arg))
			}
			expectValue(t, node(api.ExCompare, a, b), val("{}"), num(c))
			for op, want := range map[int]bool{
				api.ExEq: c == 0, api.ExNe: c != 0, api.ExGt: c > 0, api.ExGe: c >= 0, api.ExLt: c < 0, api.ExLe: c <= 0,
			} {
				expectValue(t, node(op, a, b), val("{}"), boolean(want))
			}
		}
	}
	expectValues(t, `{"a":1,"z":null,"l":[1,2],"m":{"$min":1}}`, []evaluation{
		{`{"$cmp":["$nope","$m"]}`, `-1`}, {`{"$cmp":["$m","$nope"]}`, `1`}, {`{"$cmp":["$nope","$nope.a"]}`, `0`}, {`{"$eq":["$nope","$z"]}`, `false`}, {`{"$lt":["$nope","$z"]}`, `true`},
		{`{"$eq":["$z",null]}`, `true`}, {`{"$eq":["$l",[1,2]]}`, `true`}, {`{"$eq":["$l",1]}`, `false`}, {`{"$gt":["$l",5]}`, `true`}, {`{"$cmp":["$a","$a"]}`, `0`},
		{`{"$eq":[{"a":1,"b":2},{"b":2,"a":1}]}`, `false`}, {`{"$lt":[{"$min":1},null]}`, `true`}, {`{"$eq":[true,1]}`, `false`},
	})
}
