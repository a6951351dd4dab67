package expr

import (
	"testing"

	"docstore/api"
)

// isFalse reports whether an operand is one of those that the chapter names: false, the integer 0, null and missing.
func isFalse(e api.Expr) bool {
	if e.Op == api.ExPath {
		return true
	}
	for _, s := range []string{`false`, `0`, `null`} {
		if identical(e.Arg, val(s)) {
			return true
		}
	}
	return false
}

// P8.4: which values are true, for every operator that asks for it.
func TestTruth(t *testing.T) {
	for _, e := range operands() {
		want := boolean(!isFalse(e))
		expectValue(t, node(api.ExNot, e), val("{}"), boolean(isFalse(e)))
		expectValue(t, node(api.ExNot, node(api.ExNot, e)), val("{}"), want)
		expectValue(t, node(api.ExAnd, e), val("{}"), want)
		expectValue(t, node(api.ExOr, e), val("{}"), want)
		expectValue(t, node(api.ExAnd, lit("1"), e, lit(`""`)), val("{}"), want)
		expectValue(t, node(api.ExOr, lit("0"), e, lit(`null`), pathTo("nope")), val("{}"), want)
		expectValue(t, node(api.ExAnd, e, lit("0")), val("{}"), val("false"))
		expectValue(t, node(api.ExOr, e, lit("1")), val("{}"), val("true"))
		chosen := `"else"`
		if !isFalse(e) {
			chosen = `"then"`
		}
		expectValue(t, node(api.ExIf, e, lit(`"then"`), lit(`"else"`)), val("{}"), val(chosen))
		kept := val("[]")
		if !isFalse(e) {
			kept = val("[1,0]")
		}
		expectValue(t, loop(api.ExFilter, lit("[1,0]"), "x", e), val("{}"), kept)
	}
}

// P8.4: the operators on conditions as texts.
func TestConditions(t *testing.T) {
	expectValues(t, `{"a":1,"z":null,"zero":0,"f":false,"l":[]}`, []evaluation{
		{`{"$and":[]}`, `true`}, {`{"$or":[]}`, `false`}, {`{"$and":[1,"$a",true]}`, `true`}, {`{"$and":["$a","$zero","$a"]}`, `false`}, {`{"$or":["$f","$zero","$a"]}`, `true`},
		{`{"$or":["$f","$zero","$z","$nope"]}`, `false`}, {`{"$not":"$l"}`, `false`}, {`{"$not":[0]}`, `false`}, {`{"$not":{"$value":[]}}`, `false`}, {`{"$not":{}}`, `false`},
		{`{"$not":{"$time":0}}`, `false`}, {`{"$not":{"$min":1}}`, `false`}, {`{"$not":""}`, `false`}, {`{"$not":{"$bytes":""}}`, `false`},
		{`{"$if":["$a","$z","$l"]}`, `null`}, {`{"$if":["$zero","$z","$l"]}`, `[]`}, {`{"$if":["$a","$nope",1]}`, `none`}, {`{"$if":["$nope",1,"$nope"]}`, `none`}, {`{"$if":[{"$if":[0,1,0]},1,2]}`, `2`},
		{`{"$ifNull":["$z","$a"]}`, `1`}, {`{"$ifNull":["$nope","$a"]}`, `1`}, {`{"$ifNull":["$f","$a"]}`, `false`}, {`{"$ifNull":["$zero","$a"]}`, `0`},
		{`{"$ifNull":["$z","$nope"]}`, `none`}, {`{"$ifNull":["$nope","$z"]}`, `null`}, {`{"$ifNull":["$l",1]}`, `[]`}, {`{"$ifNull":[{"$add":["x"]},2]}`, `2`},
	})
}

// P8.4: what $ifNull replaces.
func TestIfNull(t *testing.T) {
	for _, e := range operands() {
		want := e.Arg
		if e.Op == api.ExPath || e.Arg.Kind == api.KindNull {
			want = val(`"other"`)
		}
		expectValue(t, node(api.ExIfNull, e, lit(`"other"`)), val("{}"), want)
		expectValue(t, node(api.ExIfNull, lit("1"), e), val("{}"), num(1))
		expectValue(t, node(api.ExIfNull, lit("null"), e), val("{}"), e.Arg)
	}
}
