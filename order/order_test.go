package order

import (
	"fmt"
	"math/rand"
	"reflect"
	"testing"

	"tabellion/api"
	"tabellion/clone"
	"tabellion/cost"
	"tabellion/guess"
	"tabellion/naive"
	"tabellion/tri"
	"tabellion/value"
)

func col(at int) api.Term { return api.Term{Op: api.ECol, At: at, Type: api.VInt} }

func op(op int, kids ...api.Term) api.Term {
	return api.Term{Op: op, Kids: kids, Type: api.VBool}
}

func eq(a, b int) api.Term { return op(api.EEq, col(a), col(b)) }

func lt(a, b int) api.Term { return op(api.ELt, col(a), col(b)) }

// leaf is a leaf with so many columns, named after it.
func leaf(name string, width, est, cost int) api.Plan {
	p := api.Plan{Op: api.PScan, Table: name, Est: est, Cost: cost}
	for i := range width {
		p.Cols = append(p.Cols, api.Col{Table: name, Name: fmt.Sprint("c", i), Type: api.VInt})
	}
	return p
}

// show writes a plan as a text.
func show(p api.Plan) string {
	if p.Op == api.PScan {
		return p.Table
	}
	s := []string{"", "", "", "", "filter", "", "nest", "hash", "merge"}
	name := "pick"
	if p.Op < len(s) {
		name = s[p.Op]
	}
	out := name + showTerms(p.Terms)
	for i := range p.LKeys {
		out += fmt.Sprintf("<%s %s>", showTerm(p.LKeys[i]), showTerm(p.RKeys[i]))
	}
	for _, k := range p.Kids {
		out += "(" + show(k) + ")"
	}
	return out
}

func showTerms(l []api.Term) string {
	s := ""
	for _, t := range l {
		s += "[" + showTerm(t) + "]"
	}
	return s
}

func showTerm(t api.Term) string {
	if t.Op == api.ECol {
		return fmt.Sprint(t.At)
	}
	if t.Op == api.EConst {
		return value.Text(t.V)
	}
	s := fmt.Sprint("op", t.Op)
	for _, k := range t.Kids {
		s += " " + showTerm(k)
	}
	return s
}

func TestP28_1(t *testing.T) {
	if got := Leaf(leaf("a", 3, 0, 0)); !reflect.DeepEqual(got, []int{0, 1, 2}) || len(Leaf(api.Plan{})) != 0 {
		t.Error(got)
	}
}

func TestP28_2(t *testing.T) {
	a, b := leaf("a", 2, 10, 20), leaf("b", 1, 2, 5)
	for i, c := range []struct {
		l, r         api.Plan
		lcols, rcols []int
		terms        []api.Term
		want         string
		est, cost    int
		at           string
	}{
		{a, b, []int{0, 1}, []int{2}, nil, "nest(a)(b)", 20, 70, "[0 1 2]"}, {b, a, []int{2}, []int{0, 1}, nil, "nest(b)(a)", 20, 45, "[2 0 1]"},
		{b, a, []int{2}, []int{0, 1}, []api.Term{lt(0, 2), eq(1, 1)}, "nest[op13 1 0][op11 2 2](b)(a)", 3, 45, "[2 0 1]"}, {a, b, []int{0, 1}, []int{2}, []api.Term{eq(0, 2)}, "hash<0 0>(a)(b)", 7, 39, "[0 1 2]"},
		{b, a, []int{2}, []int{0, 1}, []api.Term{lt(0, 2), eq(0, 2), eq(2, 1)}, "nest[op13 1 0][op11 1 0][op11 0 2](b)(a)", 1, 45, "[2 0 1]"}, {leaf("a", 1, 1, 3), leaf("b", 1, 0, 1), []int{0}, []int{1}, []api.Term{eq(0, 1)}, "nest[op11 0 1](a)(b)", 0, 4, "[0 1]"},
		{leaf("a", 1, 1, 100), leaf("b", 1, 1, 100), []int{0}, []int{1}, []api.Term{eq(1, 0)}, "nest[op11 1 0](a)(b)", 1, 200, "[0 1]"}, {leaf("a", 1, 2, 100), leaf("b", 1, 1, 100), []int{0}, []int{1}, []api.Term{eq(1, 0)}, "hash<0 0>(a)(b)", 1, 204, "[0 1]"},
		{leaf("a", 1, 3, 1), leaf("b", 1, 1, 100), []int{4}, []int{4}, []api.Term{eq(4, 7)}, "hash<0 6>(a)(b)", 1, 106, "[4 4]"},
	} {
		p, at := Pair(c.l, c.r, c.lcols, c.rcols, c.terms)
		if show(p) != c.want || p.Est != c.est || p.Cost != c.cost || fmt.Sprint(at) != c.at || len(p.Cols) != len(c.l.Cols)+len(c.r.Cols) || p.Cols[0] != c.l.Cols[0] {
			t.Errorf("%d: %s est %d cost %d %v", i, show(p), p.Est, p.Cost, at)
		}
	}
	// The costs of both other methods.
	l, r := leaf("a", 1, 100, 7), leaf("b", 1, 50, 9)
	var got []int
	for _, p := range candidates(placed{l, []int{0}}, placed{r, []int{1}}, []api.Term{eq(0, 1)}) {
		got = append(got, p.plan.Op, p.plan.Cost)
	}
	if want := []int{api.PNest, cost.Nest(100, 7, 9), api.PHash, cost.Hash(100, 7, 50, 9), api.PMerge, cost.Merge(100, 7, 50, 9)}; !reflect.DeepEqual(got, want) {
		t.Error(got)
	}
	huge := []api.Term{col(1 << 60), col(-1), {Op: api.ECol, At: 1 << 21}}
	Pair(l, r, []int{1 << 60, -5, 1 << 21}, []int{3}, huge)
}

func TestP28_3(t *testing.T) {
	if p := Best(nil, []api.Term{eq(0, 0)}); !reflect.DeepEqual(p, api.Plan{}) {
		t.Error(p)
	}
	a, b, c := leaf("a", 2, 10, 20), leaf("b", 1, 2, 5), leaf("c", 1, 1000, 100)
	one := api.Term{Op: api.EConst, V: value.Bool(true), Type: api.VBool}
	for i, x := range []struct {
		leaves []api.Plan
		terms  []api.Term
		want   string
		out    string
	}{
		{[]api.Plan{a}, nil, "a", "[]"}, {[]api.Plan{a}, []api.Term{lt(0, 1), one}, "filter[op13 0 1][true](a)", "[]"}, {[]api.Plan{a, b}, nil, "pick(nest(b)(a))", "[1 2 0]"}, {[]api.Plan{b, a}, nil, "nest(b)(a)", "[]"},
		{[]api.Plan{b, a}, []api.Term{lt(1, 2), one, lt(0, 1)}, "pick(nest[op13 2 0](filter[op13 0 1](a))(filter[true](b)))", "[2 0 1]"}, {[]api.Plan{a, b}, []api.Term{eq(0, 2)}, "hash<0 0>(a)(b)", "[]"},
		{[]api.Plan{a, c, b}, []api.Term{eq(0, 2), eq(2, 3)}, "pick(hash<1 0>(nest[op11 1 0](b)(c))(a))", "[2 3 1 0]"},
	} {
		p := Best(x.leaves, x.terms)
		if show(p) != x.want || fmt.Sprint(p.Out) != x.out {
			t.Errorf("%d: %s %v", i, show(p), p.Out)
		}
		if p.Op == api.PPick && (p.Est != p.Kids[0].Est || p.Cost != p.Kids[0].Cost || len(p.Cols) != len(p.Out)) {
			t.Errorf("%d: %v", i, p)
		}
	}
	f := Best([]api.Plan{a}, []api.Term{lt(0, 1)})
	if f.Est != 4 || f.Cost != 30 || len(f.Cols) != 2 {
		t.Errorf("%v", f)
	}
	Best(make([]api.Plan, 9), nil)
	All(make([]api.Plan, 9), nil, 3)
}

// slow is the definition of the plan of a set, word by word.
func slow(leaves []api.Plan, masks []int, starts []int, terms []api.Term, set int) (api.Plan, []int) {
	for i, l := range leaves {
		if set != 1<<i {
			continue
		}
		at := count(starts[i], len(l.Cols))
		var own []api.Term
		for k, t := range terms {
			if masks[k] == set {
				own = append(own, move([]api.Term{t}, at)...)
			}
		}
		if len(own) == 0 {
			return l, at
		}
		return api.Plan{Op: api.PFilter, Cols: l.Cols, Kids: []api.Plan{l}, Terms: own, Est: guess.Rows(l.Est, part(own)), Cost: cost.Each(l.Est, l.Cost)}, at
	}
	least := set & -set
	var all, linked [][2]int
	for x := 1; x < set; x++ {
		if x&least == 0 || x&^set != 0 {
			continue
		}
		all = append(all, [2]int{x, set - x})
		for _, m := range masks {
			if m&x != 0 && m&(set-x) != 0 && m&^set == 0 {
				linked = append(linked, [2]int{x, set - x})
				break
			}
		}
	}
	if len(linked) == 0 {
		linked = all
	}
	var best api.Plan
	var bestAt []int
	for i, s := range linked {
		var between []api.Term
		for k, m := range masks {
			if m&^set == 0 && m&^s[0] != 0 && m&^s[1] != 0 {
				between = append(between, terms[k])
			}
		}
		l, lat := slow(leaves, masks, starts, terms, s[0])
		r, rat := slow(leaves, masks, starts, terms, s[1])
		for k := range 2 {
			p, at := Pair(l, r, lat, rat, between)
			if i == 0 && k == 0 || p.Cost < best.Cost {
				best, bestAt = p, at
			}
			l, r, lat, rat = r, l, rat, lat
		}
	}
	return best, bestAt
}

// eval computes a plan's rows; rows are those of the tables.
func eval(p api.Plan, rows map[string][]api.Row) []api.Row {
	if p.Op == api.PScan {
		return rows[p.Table]
	}
	var out []api.Row
	holds := func(l []api.Term, row api.Row) bool {
		for _, t := range l {
			if tri.From(naive.Term(t, []api.Row{row}, nil)) != api.Yes {
				return false
			}
		}
		return true
	}
	for _, a := range eval(p.Kids[0], rows) {
		switch p.Op {
		case api.PFilter:
			if holds(p.Terms, a) {
				out = append(out, a)
			}
			continue
		case api.PPick:
			var row api.Row
			for _, at := range p.Out {
				row = append(row, a[at])
			}
			out = append(out, row)
			continue
		}
		for _, b := range eval(p.Kids[1], rows) {
			same := true
			for i := range p.LKeys {
				x, y := naive.Term(p.LKeys[i], []api.Row{a}, nil), naive.Term(p.RKeys[i], []api.Row{b}, nil)
				c, ok := value.Compare(x, y)
				same = same && ok && c == 0
			}
			if row := append(clone.Row(a), b...); same && holds(p.Terms, row) {
				out = append(out, row)
			}
		}
	}
	return out
}

// TestP28_4and5 covers P28.4 and P28.5, and the order of the definition of P28.3.
func TestP28_4and5(t *testing.T) {
	r := rand.New(rand.NewSource(28))
	for range 400 {
		var leaves []api.Plan
		var starts, widths []int
		rows := map[string][]api.Row{}
		width := 0
		for i := range 1 + r.Intn(4) {
			name := string(rune('a' + i))
			p := leaf(name, 1+r.Intn(2), r.Intn(40), r.Intn(60))
			for range r.Intn(4) {
				rows[name] = append(rows[name], api.Row{value.Num(r.Intn(2)), value.Num(r.Intn(2))}[:len(p.Cols)])
			}
			leaves, starts, widths = append(leaves, p), append(starts, width), append(widths, len(p.Cols))
			width += len(p.Cols)
		}
		var terms []api.Term
		var masks []int
		for range r.Intn(5) {
			x, y := r.Intn(width), r.Intn(width)
			terms = append(terms, op([]int{api.EEq, api.EEq, api.ELe}[r.Intn(3)], col(x), col(y)))
			mask := 0
			for i := range leaves {
				for _, at := range []int{x, y} {
					if at >= starts[i] && at < starts[i]+widths[i] {
						mask |= 1 << i
					}
				}
			}
			masks = append(masks, mask)
		}
		best := Best(leaves, terms)
		want, at := slow(leaves, masks, starts, terms, 1<<len(leaves)-1)
		if got := best; got.Op == api.PPick {
			if !reflect.DeepEqual(got.Kids[0], want) {
				t.Fatalf("%s, want %s", show(got), show(want))
			}
			for i, p := range at {
				if got.Out[p] != i {
					t.Fatalf("%v for %v", got.Out, at)
				}
			}
		} else if !reflect.DeepEqual(got, want) {
			t.Fatalf("%s, want %s", show(got), show(want))
		}
		all := []api.Row{nil}
		for _, l := range leaves {
			var next []api.Row
			for _, a := range all {
				for _, b := range rows[l.Table] {
					next = append(next, append(clone.Row(a), b...))
				}
			}
			all = next
		}
		filtered := eval(api.Plan{Op: api.PFilter, Terms: terms, Kids: []api.Plan{{Op: api.PScan, Table: "all"}}}, map[string][]api.Row{"all": all})
		plans := All(leaves, terms, 300)
		for i, p := range append(plans, best) {
			if !value.Bag(eval(p, rows), filtered) {
				t.Fatalf("%s: %v, want %v", show(p), eval(p, rows), filtered)
			}
			for k, c := range p.Cols {
				if n := len(leaves); n > 0 && c != columns(leaves)[k] {
					t.Fatalf("%s: columns %v", show(p), p.Cols)
				}
			}
			if len(terms) == 0 && p.Cost < best.Cost {
				t.Fatalf("plan %d, %s, is cheaper than %s", i, show(p), show(best))
			}
		}
		for _, most := range []int{-1, 0, 1, 7} {
			if got := All(leaves, terms, most); len(got) != max(min(most, len(plans)), 0) || len(got) > 0 && !reflect.DeepEqual(got, plans[:len(got)]) {
				t.Fatalf("the first %d of %d plans: %d", most, len(plans), len(got))
			}
		}
	}
	var l []string
	for _, p := range All([]api.Plan{leaf("a", 1, 1, 1), leaf("b", 1, 1, 1)}, []api.Term{eq(0, 1)}, 99) {
		l = append(l, show(p))
	}
	if want := "[nest[op11 0 1](a)(b) hash<0 0>(a)(b) merge<0 0>(a)(b) pick(nest[op11 1 0](b)(a)) pick(hash<0 0>(b)(a)) pick(merge<0 0>(b)(a))]"; fmt.Sprint(l) != want {
		t.Error(l)
	}
	three := All([]api.Plan{leaf("a", 1, 1, 1), leaf("b", 1, 1, 1), leaf("c", 1, 1, 1)}, nil, 99)
	if len(three) != 12 || show(three[0]) != "nest(a)(nest(b)(c))" || show(three[1]) != "pick(nest(a)(nest(c)(b)))" || show(three[2]) != "pick(nest(nest(b)(c))(a))" || show(three[4]) != "nest(nest(a)(b))(c)" {
		t.Error(len(three), show(three[0]), show(three[1]), show(three[2]), show(three[4]))
	}
	eight := make([]api.Plan, 8)
	for i := range eight {
		eight[i] = leaf("x", 1, 10*i, 10)
	}
	if got := All(eight, []api.Term{eq(0, 7), eq(3, 4)}, 500); len(got) != 500 {
		t.Error(len(got))
	}
	Best(eight, nil)
}

func columns(leaves []api.Plan) []api.Col {
	var l []api.Col
	for _, p := range leaves {
		l = append(l, p.Cols...)
	}
	return l
}
