package btree

import (
	"tabellion/api"
	"tabellion/node"
	"tabellion/page"
	"tabellion/pool"
	"tabellion/space"
	"tabellion/txn"
)

// splitOne splits the lowest page of a path whose parent has room for another child, or the root.
func splitOne(s api.Store, who int, steps []step) (api.Store, api.Errno) {
	for i := len(steps) - 1; ; i-- {
		l, r, e, ok := node.Split(steps[i].p)
		if !ok {
			return s, api.ErrArg
		}
		x := split{who: who, of: steps[i], left: page.SetLsn(l, 0), right: r, e: e}
		if i > 0 {
			x.parent = steps[i-1]
			if page.Room(x.parent.p) < len(node.PutChild(e, 0)) {
				continue
			}
		}
		// Whatever becomes of the transaction, a split tree stays split: others may rely on it.
		mark := txn.Mark(s, who)
		var err api.Errno
		if i > 0 {
			s, err = x.inParent(s)
		} else {
			s, err = x.ofRoot(s)
		}
		if err != api.OK {
			return s, err
		}
		return txn.Nest(s, who, mark)
	}
}

// split is a page that is split, its parts, and the entry between them.
type split struct {
	who         int
	of, parent  step
	left, right string
	e           api.Entry
}

func (x split) kind() int { return page.Kind(x.of.p) }

// linked returns the left part, with a link to the right one if it is a leaf.
func (x split) linked(right int) string {
	if x.kind() == api.GLeaf {
		return page.SetLink(x.left, right)
	}
	return x.left
}

// replace makes a page another one.
func (x split) replace(s api.Store, at int, next string) (api.Store, api.Errno) {
	s, p, err := pool.Get(s, at)
	if err != api.OK {
		return s, err
	}
	return x.change(s, at, api.Op{Kind: api.OAll, Old: page.SetLsn(p, 0), New: next})
}

func (x split) change(s api.Store, at int, o api.Op) (api.Store, api.Errno) {
	return pool.Change(s, api.Rec{Kind: api.KChange, Txn: x.who, Page: at, Op: o, How: api.UPage})
}

// ofRoot moves both parts of the root to new pages, its only children from then on.
func (x split) ofRoot(s api.Store) (api.Store, api.Errno) {
	s, l, err := space.Alloc(s, x.who, x.kind())
	if err != api.OK {
		return s, err
	}
	s, r, err := space.Alloc(s, x.who, x.kind())
	if err != api.OK {
		return s, err
	}
	if s, err = x.replace(s, l, x.linked(r)); err != api.OK {
		return s, err
	}
	if s, err = x.replace(s, r, x.right); err != api.OK {
		return s, err
	}
	top, err := page.Put(page.New(api.GNode), 0, node.PutChild(api.Entry{}, l))
	if err != api.OK {
		return s, err
	}
	if top, err = page.Put(top, 1, node.PutChild(x.e, r)); err != api.OK {
		return s, err
	}
	return x.replace(s, x.of.at, top)
}

// inParent moves the right part of a page to a new page, which becomes a child of its parent.
func (x split) inParent(s api.Store) (api.Store, api.Errno) {
	s, r, err := space.Alloc(s, x.who, x.kind())
	if err != api.OK {
		return s, err
	}
	if s, err = x.replace(s, r, x.right); err != api.OK {
		return s, err
	}
	if s, err = x.replace(s, x.of.at, x.linked(r)); err != api.OK {
		return s, err
	}
	return x.change(s, x.parent.at, api.Op{Kind: api.OAdd, Slot: x.parent.index + 1, New: node.PutChild(x.e, r)})
}
