package rules

import (
	"tabellion/access"
	"tabellion/agg"
	"tabellion/algebra"
	"tabellion/api"
	"tabellion/aries"
	"tabellion/audit"
	"tabellion/base"
	"tabellion/bind"
	"tabellion/btree"
	"tabellion/change"
	"tabellion/ckpt"
	"tabellion/commit"
	"tabellion/conj"
	"tabellion/constr"
	"tabellion/cost"
	"tabellion/disk"
	"tabellion/engine"
	"tabellion/exec"
	"tabellion/explain"
	"tabellion/fold"
	"tabellion/graph"
	"tabellion/grouper"
	"tabellion/guess"
	"tabellion/heap"
	"tabellion/joiner"
	"tabellion/keycode"
	"tabellion/lex"
	"tabellion/like"
	"tabellion/log"
	"tabellion/model"
	"tabellion/naive"
	"tabellion/node"
	"tabellion/num"
	"tabellion/octet"
	"tabellion/order"
	"tabellion/overlay"
	"tabellion/page"
	"tabellion/parse"
	"tabellion/planner"
	"tabellion/pool"
	"tabellion/print"
	"tabellion/push"
	"tabellion/rec"
	"tabellion/rowcode"
	"tabellion/scalar"
	"tabellion/schema"
	"tabellion/scope"
	"tabellion/script"
	"tabellion/session"
	"tabellion/setop"
	"tabellion/sorter"
	"tabellion/space"
	"tabellion/stat"
	"tabellion/syntax"
	"tabellion/tri"
	"tabellion/txn"
	"tabellion/types"
	"tabellion/undo"
	"tabellion/vacuum"
	"tabellion/value"
	"tabellion/version"
)

// calls lists the functions of all layers that have landed.
func calls() []call {
	return []call{
		{"tri.Is", tri.Is, 0},
		{"tri.Of", tri.Of, 0},
		{"tri.Not", tri.Not, 0},
		{"tri.And", tri.And, 0},
		{"tri.Or", tri.Or, 0},
		{"tri.All", tri.All, 0},
		{"tri.Any", tri.Any, 0},
		{"tri.Value", tri.Value, 0},
		{"tri.From", tri.From, 0},
		{"num.In", num.In, 0},
		{"num.Add", num.Add, zeroes},
		{"num.Sub", num.Sub, zeroes},
		{"num.Mul", num.Mul, zeroes},
		{"num.Div", num.Div, zeroes},
		{"num.Mod", num.Mod, zeroes},
		{"num.Neg", num.Neg, zeroes},
		{"num.Text", num.Text, 0},
		{"num.Parse", num.Parse, zeroes},
		{"value.Num", value.Num, 0},
		{"value.Str", value.Str, 0},
		{"value.Bool", value.Bool, 0},
		{"value.Right", value.Right, 0},
		{"value.Rights", value.Rights, 0},
		{"value.Compare", value.Compare, zeroes},
		{"value.Order", value.Order, 0},
		{"value.Orders", value.Orders, 0},
		{"value.Sorted", value.Sorted, 0},
		{"value.Bag", value.Bag, 0},
		{"value.Text", value.Text, 0},
		{"like.Match", like.Match, 0},
		{"like.Exact", like.Exact, zeroes},
		{"like.Prefix", like.Prefix, 0},
		{"like.Quote", like.Quote, 0},
		{"octet.Put", octet.Put, 0},
		{"octet.Get", octet.Get, zeroes},
		{"octet.PutText", octet.PutText, 0},
		{"octet.GetText", octet.GetText, zeroes},
		{"octet.Sum", octet.Sum, 0},
		{"octet.Seal", octet.Seal, 0},
		{"octet.Open", octet.Open, zeroes},
		{"rowcode.Put", rowcode.Put, zeroes},
		{"rowcode.Get", rowcode.Get, zeroes},
		{"rowcode.Size", rowcode.Size, 0},
		{"keycode.Put", keycode.Put, 0},
		{"keycode.Get", keycode.Get, zeroes},
		{"keycode.After", keycode.After, zeroes},
		{"lex.Next", lex.Next, 0},
		{"lex.Tokens", lex.Tokens, 0},
		{"lex.Reserved", lex.Reserved, 0},
		{"lex.Name", lex.Name, 0},
		{"syntax.Expr", syntax.Expr, 0},
		{"syntax.Query", syntax.Query, 0},
		{"syntax.Stmt", syntax.Stmt, 0},
		{"syntax.Size", syntax.Size, 0},
		{"syntax.SameExpr", syntax.SameExpr, 0},
		{"syntax.SameQuery", syntax.SameQuery, 0},
		{"syntax.SameStmt", syntax.SameStmt, 0},
		{"parse.Expr", parse.Expr, 0},
		{"parse.Query", parse.Query, 0},
		{"parse.Stmt", parse.Stmt, 0},
		{"parse.Script", parse.Script, 0},
		{"print.Expr", print.Expr, zeroes},
		{"print.Query", print.Query, zeroes},
		{"print.Stmt", print.Stmt, zeroes},
		{"schema.Right", schema.Right, 0},
		{"schema.Create", schema.Create, 0},
		{"schema.Index", schema.Index, 0},
		{"schema.Drop", schema.Drop, 0},
		{"schema.Find", schema.Find, zeroes},
		{"schema.Indexes", schema.Indexes, 0},
		{"schema.Cols", schema.Cols, 0},
		{"schema.Texts", schema.Texts, 0},
		{"types.Op", types.Op, zeroes},
		{"types.Func", types.Func, zeroes},
		{"types.Agg", types.Agg, zeroes},
		{"types.Join", types.Join, zeroes},
		{"types.Fits", types.Fits, 0},
		{"scope.Find", scope.Find, zeroes},
		{"scope.Star", scope.Star, zeroes},
		{"scope.Out", scope.Out, 0},
		{"scope.Order", scope.Order, zeroes},
		{"algebra.Term", algebra.Term, 0},
		{"algebra.Rel", algebra.Rel, 0},
		{"algebra.Width", algebra.Width, 0},
		{"algebra.Plain", algebra.Plain, 0},
		{"algebra.SameTerm", algebra.SameTerm, 0},
		{"algebra.SameRel", algebra.SameRel, 0},
		{"bind.Term", bind.Term, zeroes},
		{"bind.Query", bind.Query, zeroes},
		{"bind.Top", bind.Top, zeroes},
		{"bind.Checks", bind.Checks, zeroes},
		{"scalar.Apply", scalar.Apply, 0},
		{"scalar.Eval", scalar.Eval, 0},
		{"scalar.Truth", scalar.Truth, 0},
		{"fold.Const", fold.Const, zeroes},
		{"fold.Term", fold.Term, 0},
		{"fold.Rel", fold.Rel, 0},
		{"agg.Start", agg.Start, 0},
		{"agg.Step", agg.Step, 0},
		{"agg.Merge", agg.Merge, 0},
		{"agg.Value", agg.Value, 0},
		{"agg.Run", agg.Run, 0},
		{"naive.Term", naive.Term, 0},
		{"naive.Run", naive.Run, 0},
		{"naive.Top", naive.Top, 0},
		{"conj.Split", conj.Split, 0},
		{"conj.Join", conj.Join, 0},
		{"conj.Uses", conj.Uses, 0},
		{"conj.Move", conj.Move, 0},
		{"conj.Within", conj.Within, 0},
		{"conj.Pair", conj.Pair, zeroes},
		{"push.Once", push.Once, 0},
		{"push.Rel", push.Rel, 0},
		{"stat.Of", stat.Of, 0},
		{"stat.Right", stat.Right, 0},
		{"stat.Find", stat.Find, zeroes},
		{"guess.Part", guess.Part, 0},
		{"guess.Rows", guess.Rows, 0},
		{"guess.Pairs", guess.Pairs, 0},
		{"guess.Groups", guess.Groups, 0},
		{"cost.Add", cost.Add, 0},
		{"cost.Mul", cost.Mul, 0},
		{"cost.Scan", cost.Scan, 0},
		{"cost.Seek", cost.Seek, 0},
		{"cost.Nest", cost.Nest, 0},
		{"cost.Hash", cost.Hash, 0},
		{"cost.Merge", cost.Merge, 0},
		{"cost.Sort", cost.Sort, 0},
		{"cost.Each", cost.Each, 0},
		{"access.Range", access.Range, 0},
		{"access.Paths", access.Paths, 0},
		{"access.Best", access.Best, 0},
		{"graph.Leaves", graph.Leaves, 0},
		{"graph.Mask", graph.Mask, 0},
		{"graph.Linked", graph.Linked, 0},
		{"graph.Splits", graph.Splits, 0},
		{"order.Leaf", order.Leaf, 0},
		{"order.Pair", order.Pair, 0},
		{"order.Best", order.Best, 0},
		{"order.All", allPlans, 0},
		{"planner.Plan", planner.Plan, 0},
		{"planner.Right", planner.Right, 0},
		{"planner.Ways", someWays, 0},
		{"explain.Nodes", explain.Nodes, 0},
		{"explain.Lines", explain.Lines, 0},
		{"explain.Term", explain.Term, 0},
		{"sorter.Before", sorter.Before, 0},
		{"sorter.Sort", sorter.Sort, 0},
		{"sorter.Runs", sorter.Runs, 0},
		{"sorter.Merge", sorter.Merge, 0},
		{"joiner.Nest", joiner.Nest, 0},
		{"joiner.Hash", joiner.Hash, 0},
		{"joiner.Merge", joiner.Merge, 0},
		{"joiner.Alone", func(n int, l [][2]int) []int { return joiner.Alone(min(n, 70000), l) }, 0},
		{"grouper.Groups", grouper.Groups, 0},
		{"grouper.Distinct", grouper.Distinct, 0},
		{"grouper.Sorted", grouper.Sorted, 0},
		{"setop.Union", setop.Union, 0},
		{"setop.Inter", setop.Inter, 0},
		{"setop.Except", setop.Except, 0},
		{"exec.Leaf", exec.Leaf, 0},
		{"exec.Run", exec.Run, 0},
		{"exec.Mem", func(c api.Catalog, db []api.Data, p api.Plan) []api.Row { return exec.Mem(c, db)(p) }, 0},
		{"disk.New", disk.New, zeroes},
		{"disk.Read", disk.Read, zeroes},
		{"disk.Write", disk.Write, 0},
		{"disk.ReadPage", disk.ReadPage, zeroes},
		{"disk.WritePage", disk.WritePage, 0},
		{"disk.Arm", disk.Arm, 0},
		{"disk.Start", disk.Start, 0},
		{"page.New", page.New, 0},
		{"page.Right", page.Right, 0},
		{"page.Kind", page.Kind, 0},
		{"page.Lsn", page.Lsn, 0},
		{"page.Link", page.Link, 0},
		{"page.SetLsn", page.SetLsn, 0},
		{"page.SetLink", page.SetLink, 0},
		{"page.Seal", page.Seal, 0},
		{"page.Sealed", page.Sealed, 0},
		{"page.Slots", page.Slots, 0},
		{"page.Get", page.Get, zeroes},
		{"page.Room", page.Room, 0},
		{"page.Free", page.Free, 0},
		{"page.Put", page.Put, zeroes},
		{"page.Cut", page.Cut, zeroes},
		{"page.Set", page.Set, zeroes},
		{"page.Add", page.Add, zeroes},
		{"page.Del", page.Del, zeroes},
		{"rec.Right", rec.Right, 0},
		{"rec.Put", rec.Put, zeroes},
		{"rec.Get", rec.Get, 0},
		{"rec.Same", rec.Same, 0},
		{"log.New", log.New, 0},
		{"log.Append", log.Append, 0},
		{"log.Force", log.Force, shares},
		{"log.Open", log.Open, zeroes},
		{"log.Read", log.Read, zeroes},
		{"change.Right", change.Right, 0},
		{"change.Do", change.Do, zeroes},
		{"change.Back", change.Back, 0},
		{"pool.New", pool.New, zeroes},
		{"pool.At", pool.At, 0},
		{"pool.Get", pool.Get, shares},
		{"pool.Pin", pool.Pin, shares},
		{"pool.Unpin", pool.Unpin, shares},
		{"pool.Change", pool.Change, shares},
		{"pool.Redo", pool.Redo, shares},
		{"pool.Flush", pool.Flush, shares},
		{"pool.All", pool.All, shares},
		{"pool.Dirty", pool.Dirty, 0},
		{"txn.Begin", txn.Begin, shares},
		{"txn.Find", txn.Find, 0},
		{"txn.Note", txn.Note, 0},
		{"txn.Mark", txn.Mark, 0},
		{"txn.Nest", txn.Nest, shares},
		{"txn.Commit", txn.Commit, shares},
		{"txn.Abort", txn.Abort, shares},
		{"txn.End", txn.End, shares},
		{"space.Format", space.Format, shares},
		{"space.Alloc", space.Alloc, shares},
		{"space.Free", space.Free, shares},
		{"space.Used", space.Used, shares},
		{"heap.New", heap.New, shares},
		{"heap.Insert", heap.Insert, shares},
		{"heap.Set", heap.Set, shares},
		{"heap.Cut", heap.Cut, shares},
		{"heap.Get", heap.Get, shares},
		{"heap.Scan", heap.Scan, shares},
		{"heap.Drop", heap.Drop, shares},
		{"node.Less", node.Less, 0},
		{"node.PutEntry", node.PutEntry, 0},
		{"node.GetEntry", node.GetEntry, zeroes},
		{"node.PutChild", node.PutChild, 0},
		{"node.GetChild", node.GetChild, zeroes},
		{"node.Right", node.Right, 0},
		{"node.Entries", node.Entries, 0},
		{"node.Children", node.Children, 0},
		{"node.Find", node.Find, 0},
		{"node.Split", node.Split, zeroes},
		{"btree.New", btree.New, shares},
		{"btree.Put", btree.Put, shares},
		{"btree.Cut", btree.Cut, shares},
		{"btree.Range", btree.Range, shares},
		{"btree.Height", btree.Height, shares},
		{"btree.Check", btree.Check, shares},
		{"btree.Drop", btree.Drop, shares},
		{"undo.One", undo.One, shares},
		{"undo.To", undo.To, shares},
		{"undo.Back", undo.Back, shares},
		{"ckpt.Master", ckpt.Master, 0},
		{"ckpt.SetMaster", ckpt.SetMaster, shares},
		{"ckpt.Take", ckpt.Take, shares},
		{"aries.Analyse", aries.Analyse, 0},
		{"aries.Format", aries.Format, zeroes},
		{"aries.Open", aries.Open, shares},
		{"version.Put", version.Put, zeroes},
		{"version.Get", version.Get, zeroes},
		{"version.Seen", version.Seen, 0},
		{"version.Pick", version.Pick, 0},
		{"version.Old", version.Old, 0},
		{"overlay.Add", overlay.Add, zeroes},
		{"overlay.Rows", overlay.Rows, 0},
		{"overlay.Data", overlay.Data, 0},
		{"constr.Row", constr.Row, 0},
		{"constr.Keys", constr.Keys, 0},
		{"constr.Refs", constr.Refs, 0},
		{"constr.All", constr.All, 0},
		{"base.Root", base.Root, zeroes},
		{"base.Make", base.Make, shares},
		{"base.Drop", base.Drop, shares},
		{"base.Load", base.Load, shares},
		{"base.Put", base.Put, shares},
		{"base.Close", base.Close, shares},
		{"base.Erase", base.Erase, shares},
		{"base.Seek", base.Seek, shares},
		{"base.Check", base.Check, shares},
		{"commit.Clash", commit.Clash, 0},
		{"commit.Do", commit.Do, shares},
		{"commit.Data", commit.Data, shares},
		{"vacuum.Run", vacuum.Run, shares},
		{"engine.New", engine.New, zeroes},
		{"engine.Open", engine.Open, shares},
		{"engine.Ask", engine.Ask, shares},
		{"engine.Analyze", engine.Analyze, shares},
		{"engine.Check", engine.Check, shares},
		{"session.New", session.New, 0},
		{"session.Run", session.Run, shares},
		{"session.Text", session.Text, shares},
		{"script.Parse", script.Parse, 0},
		{"script.Print", script.Print, zeroes},
		{"script.Run", script.Run, 0},
		{"script.Line", script.Line, 0},
		{"model.Run", model.Run, 0},
		{"model.States", model.States, 0},
		{"audit.Same", audit.Same, 0},
		{"audit.Look", audit.Look, 0},
		{"audit.Store", audit.Store, 0},
	}
}

// allPlans asks for so few plans that a result stays within what the promises allow.
func allPlans(leaves []api.Plan, terms []api.Term, most int) []api.Plan {
	return order.All(leaves, terms, min(most, 20))
}

// someWays asks for so few plans that a result stays within what the promises allow.
func someWays(c api.Catalog, l []api.Stat, r api.Rel, most int) []api.Plan {
	return planner.Ways(c, l, r, min(most, 20))
}
