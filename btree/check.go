package btree

import (
	"tabellion/api"
	"tabellion/node"
	"tabellion/page"
	"tabellion/pool"
)

// Check reports whether a tree is valid.
func Check(s api.Store, root int) (api.Store, bool, api.Errno) {
	c := checker{s: s, seen: map[int]bool{}}
	ok := c.page(root, 1, bounds{}) && c.linked()
	if c.err != api.OK {
		t, err := settle(s, c.s, c.err)
		return t, false, err
	}
	return c.s, ok, api.OK
}

// checker goes through the pages of a tree.
type checker struct {
	s      api.Store
	seen   map[int]bool
	height int
	leaves []leaf // from left to right
	err    api.Errno
}

// leaf is a leaf's page and link.
type leaf struct{ at, link int }

// bounds are what the entries of a page must not be less than, and must be less than, if there are such bounds.
type bounds struct {
	lo, hi       api.Entry
	hasLo, hasHi bool
}

func (b bounds) allow(e api.Entry) bool {
	return !(b.hasLo && node.Less(e, b.lo)) && !(b.hasHi && !node.Less(e, b.hi))
}

// page reports whether a page and those below it are as they must be.
func (c *checker) page(at, depth int, b bounds) bool {
	if c.seen[at] {
		return false
	}
	c.seen[at] = true
	t, p, err := pool.Get(c.s, at)
	c.s, c.err = t, err
	if err != api.OK || !node.Right(p) {
		return false
	}
	entries, kids := node.Entries(p), node.Children(p)
	for i, e := range entries {
		// The first child's entry counts as less than all others.
		if !b.allow(e) && (len(kids) == 0 || i > 0) {
			return false
		}
	}
	if page.Kind(p) == api.GLeaf {
		if c.height == 0 {
			c.height = depth
		}
		c.leaves = append(c.leaves, leaf{at, page.Link(p)})
		return depth == c.height
	}
	for i, kid := range kids {
		if !c.page(kid, depth+1, b.within(entries, i)) {
			return false
		}
	}
	return page.Link(p) == 0
}

// within returns the bounds of the child at an index.
func (b bounds) within(entries []api.Entry, i int) bounds {
	if i > 0 {
		b.lo, b.hasLo = entries[i], true
	}
	if i+1 < len(entries) {
		b.hi, b.hasHi = entries[i+1], true
	}
	return b
}

// linked reports whether the leaves are linked from left to right.
func (c *checker) linked() bool {
	for i, l := range c.leaves {
		next := 0
		if i+1 < len(c.leaves) {
			next = c.leaves[i+1].at
		}
		if l.link != next {
			return false
		}
	}
	return true
}
