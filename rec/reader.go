package rec

import (
	"tabellion/api"
	"tabellion/octet"
)

// reader reads a body from left to right; it notes whether something is missing or wrong.
type reader struct {
	body  string
	at    int
	wrong bool
}

// get reads a number of so many bytes.
func (r *reader) get(size int) int {
	n, ok := octet.Get(r.body, r.at, size)
	r.wrong = r.wrong || !ok
	r.at += size
	return n
}

func (r *reader) string() string {
	s, next, ok := octet.GetText(r.body, r.at)
	if !ok {
		r.wrong = true
		return ""
	}
	r.at = next
	return s
}

// boolean reads a byte that is 1 or 0.
func (r *reader) boolean() bool {
	n := r.get(1)
	r.wrong = r.wrong || n > 1
	return n == 1
}

func (r *reader) op() api.Op {
	o := api.Op{Kind: r.get(1), Slot: r.get(2)}
	o.Old = r.string()
	o.New = r.string()
	return o
}

// rec reads a record, which need not be valid.
func (r *reader) rec() api.Rec {
	x := api.Rec{Kind: r.get(1)}
	x.Lsn, x.Prev, x.Txn = r.get(6), r.get(6), r.get(6)
	switch x.Kind {
	case api.KChange:
		x.Page = r.get(3)
		x.Op = r.op()
		x.How = r.get(1)
		if x.How != api.UPage {
			x.Root = r.get(3)
			x.E.Rid.Page = r.get(3)
			x.E.Rid.Slot = r.get(2)
			x.E.Key = r.string()
		}
	case api.KClr:
		x.Page = r.get(3)
		x.Op = r.op()
		x.Next = r.get(6)
	case api.KNest:
		x.Next = r.get(6)
	case api.KImage:
		x.Page = r.get(3)
		x.Op = r.op()
	case api.KCheck:
		r.check(&x)
	}
	return x
}

func (r *reader) check(x *api.Rec) {
	x.Num = r.get(6)
	for n := r.get(2); n > 0 && !r.wrong; n-- {
		t := api.TxnAt{Txn: r.get(6), Last: r.get(6), Next: r.get(6)}
		t.Done = r.boolean()
		x.Txns = append(x.Txns, t)
	}
	for n := r.get(2); n > 0 && !r.wrong; n-- {
		x.Dirty = append(x.Dirty, api.DirtyAt{Page: r.get(3), Rec: r.get(6)})
	}
}
