package expr

import (
	"math/rand/v2"
	"testing"

	"docstore/api"
	"docstore/path"
	"docstore/sample"
	"docstore/value"
)

// P8.4: random expressions for random documents, compared with the description of the chapter.
func TestEvalRandom(t *testing.T) {
	r := rand.New(rand.NewPCG(8, 44))
	kinds := map[int]int{}
	for range 60000 {
		e, d := randomExpr(r, 1+r.IntN(5)), randomDoc(r)
		expectValid(t, e, api.OK)
		want := reference(e, d, map[string]api.Value{})
		kinds[want.Kind]++
		expectValue(t, e, d, want)
	}
	for kind := api.KindNone; kind <= api.KindMax; kind++ {
		if kinds[kind] < 20 {
			t.Errorf("only %d values of the kind %d", kinds[kind], kind)
		}
	}
}

// P8.6: Parse of Build of an expression is the expression.
func TestParseOfBuild(t *testing.T) {
	r := rand.New(rand.NewPCG(8, 6))
	for range 20000 {
		e := randomExpr(r, 1+r.IntN(6))
		v, errno := Build(e)
		if errno != api.OK {
			if errno != api.ErrLimit {
				t.Errorf("Build of %s: error %d", brief(showExpr(e)), errno)
			}
			continue
		}
		expectParse(t, v, e)
	}
	for op := 1; op <= api.ExLast; op++ {
		v, errno := Build(sampleOf(op))
		if errno != api.OK {
			t.Errorf("Build of the operator %d: error %d", op, errno)
		}
		expectParse(t, v, sampleOf(op))
	}
	for _, s := range pool() {
		v, _ := Build(lit(s))
		expectParse(t, v, lit(s))
	}
}

// randomForm returns a value that is often an expression: a list, a document or the operator, with parts of the same sort.
func randomForm(r *rand.Rand, levels int) api.Value {
	texts := []string{"$a", "$a.b", "$$x", "$$x.a", "x", "a", "$", "$$", "$a..b"}
	switch n := r.IntN(12); {
	case levels == 1 && n < 4:
		return randomValue(r, 2)
	case levels == 1 || n < 3:
		return text(texts[r.IntN(len(texts)-r.IntN(4))])
	case n < 5:
		return list(randomForms(r, levels-1, r.IntN(4)))
	case n < 7:
		return document([]string{"b", "a", "c"}, randomForms(r, levels-1, r.IntN(4)))
	}
	op := 1 + r.IntN(api.ExLast)
	name := shapes[op].name
	switch {
	case op == api.ExValue:
		return only(name, randomValue(r, 3))
	case name == "":
		return only("$not", randomForm(r, levels-1))
	case kidsOf(op) == 1:
		return only(name, randomForm(r, levels-1))
	}
	kids := randomForms(r, levels-1, max(kidsOf(op), 1))
	if op == api.ExMap || op == api.ExFilter {
		kids = []api.Value{kids[0], text("x"), kids[1]}
	}
	return only(name, list(kids))
}

func randomForms(r *rand.Rand, levels, n int) []api.Value {
	var l []api.Value
	for range n {
		l = append(l, randomForm(r, levels))
	}
	return l
}

// P8.6: what Parse accepts is valid, and can be built again and parsed as the same expression.
func TestBuildOfParse(t *testing.T) {
	r := rand.New(rand.NewPCG(6, 8))
	accepted, refused := 0, 0
	for range 20000 {
		v := randomForm(r, 1+r.IntN(6))
		e, errno := Parse(v)
		if errno != api.OK {
			refused++
			if !identicalExprs(e, api.Expr{}) {
				t.Errorf("Parse of %s: %s with error %d", show(v), brief(showExpr(e)), errno)
			}
			continue
		}
		accepted++
		expectValid(t, e, api.OK)
		again, errno := Build(e)
		if errno != api.OK || value.Nodes(again) > value.Nodes(v) {
			t.Errorf("Build of Parse of %s: %s, error %d", show(v), show(again), errno)
		}
		expectParse(t, again, e)
	}
	if accepted < 5000 || refused < 2000 {
		t.Errorf("%d values were accepted, %d were refused", accepted, refused)
	}
}

// P8.6: values of expressions that are not in the form that Build returns.
func TestParseOtherForms(t *testing.T) {
	for _, c := range []struct{ s, built string }{
		{`{"$value":1}`, `1`}, {`{"$value":"a"}`, `"a"`}, {`{"$value":{}}`, `{}`}, {`{"$value":null}`, `null`}, {`{"a":{"$value":{"$max":1}}}`, `{"a":{"$max":1}}`},
		{`{"$add":[{"$value":"$a"},{"$value":"a$"}]}`, `{"$add":[{"$value":"$a"},"a$"]}`},
	} {
		e, errno := Parse(val(c.s))
		if errno != api.OK {
			t.Errorf("Parse of %s: error %d", c.s, errno)
		}
		expectBuild(t, e, val(c.built), api.OK)
		expectParse(t, val(c.built), e)
	}
}

// P8.7: a value depends only on those fields with which the paths begin, whatever the others are.
func TestOtherFields(t *testing.T) {
	r := rand.New(rand.NewPCG(8, 7))
	reads, differs := 0, 0
	for range 20000 {
		e, d := randomExpr(r, 1+r.IntN(5)), randomDoc(r)
		used := map[string]bool{}
		for _, p := range Paths(e) {
			used[p[0]] = true
		}
		reads += len(used)
		needed, changed := val("{}"), val("{}")
		for _, name := range []string{"c", "b", "a"} {
			v, ok := value.Get(d, name)
			if ok && used[name] {
				needed, changed = value.Set(needed, name, v), value.Set(changed, name, v)
			}
			if !used[name] {
				changed = value.Set(changed, name, randomValue(r, 3))
			}
		}
		if !identical(changed, d) {
			differs++
		}
		expectValue(t, e, needed, Eval(e, d))
		expectValue(t, e, changed, Eval(e, d))
	}
	if reads < 5000 || differs < 5000 {
		t.Errorf("%d fields were read, %d documents were changed", reads, differs)
	}
}

// P8.5, P8.7: a path of an expression is there for every field that matters.
func TestPathsAreNeeded(t *testing.T) {
	r := rand.New(rand.NewPCG(7, 8))
	matters := 0
	for range 20000 {
		e, d := randomExpr(r, 1+r.IntN(4)), randomDoc(r)
		for _, f := range d.Doc {
			without := value.Remove(d, f.Name)
			if identical(Eval(e, without), Eval(e, d)) {
				continue
			}
			matters++
			found := false
			for _, p := range Paths(e) {
				found = found || p[0] == f.Name
			}
			if !found {
				t.Errorf("the field %s matters for %s, whose paths are %q", f.Name, brief(showExpr(e)), Paths(e))
			}
		}
	}
	if matters < 500 {
		t.Errorf("only %d fields mattered", matters)
	}
}

// P8.7: Eval returns a valid value or none, also for documents that are not valid.
func TestEvalIsValid(t *testing.T) {
	r := rand.New(rand.NewPCG(77, 8))
	spoiling := append(invalid(), api.Value{Text: "a"})
	for range 4000 {
		e, d := randomExpr(r, 1+r.IntN(5)), randomDoc(r)
		bad := spoiling[r.IntN(len(spoiling))]
		for _, p := range Paths(e) {
			if spoilt, errno := path.Put(d, p, bad); errno == api.OK {
				d = spoilt
			}
		}
		if r.IntN(3) == 0 {
			d = list([]api.Value{d, bad})
		}
		if v := Eval(e, d); !identical(v, api.Value{}) && !value.Valid(v) {
			t.Errorf("the value of %s for %s: %s", brief(showExpr(e)), brief(sample.Show(d)), show(v))
		}
	}
}
