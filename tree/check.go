package tree

import (
	"wharfage/api"
	"wharfage/bitmap"
	"wharfage/heap"
	"wharfage/node"
)

const bitmapAt = 1 // the page of the bitmap

// checker is what is known of the nodes that were checked.
type checker struct {
	tree  *tree
	bits  string           // the bitmap
	seen  map[int]struct{} // the pages of the nodes
	depth int              // of the leaves, or 0
	many  uint64           // the number of items
}

// Check validates a tree.
func Check(h *heap.Heap) api.Errno {
	t, ok := read(h)
	if !ok {
		return api.ErrForm
	}
	if t.root == 0 {
		return api.OK
	}
	c := checker{tree: t, bits: h.Get(bitmapAt), seen: map[int]struct{}{}}
	if !c.isValid(t.root, 1, "", "") || c.many != t.many {
		return api.ErrForm
	}
	return api.OK
}

// isValid checks the nodes below a page at a depth, whose keys must be at
// least from, and less than to unless that is empty.
func (c *checker) isValid(page, depth int, from, to string) bool {
	n, ok := c.look(page)
	if !ok {
		return false
	}
	if isLeaf(n) {
		return c.isValidLeaf(n, depth, from, to)
	}
	for i, kid := range n.Kids {
		low, high := from, to
		if i > 0 {
			low = n.Items[i-1].Key
		}
		if i < len(n.Items) {
			high = n.Items[i].Key
		}
		if !c.isValid(kid, depth+1, low, high) {
			return false
		}
	}
	return true
}

// look returns the node on a page, and whether it may be one of the tree.
func (c *checker) look(page int) (node.Node, bool) {
	if _, again := c.seen[page]; again || !bitmap.Used(c.bits, page) {
		return node.Node{}, false
	}
	c.seen[page] = struct{}{}
	return c.tree.look(page)
}

// isValidLeaf checks a leaf, and counts its items. The keys of branches need
// no such check: each is between those of the leaves before and after it.
func (c *checker) isValidLeaf(n node.Node, depth int, from, to string) bool {
	if c.depth == 0 {
		c.depth = depth
	}
	c.many += uint64(len(n.Items))
	lowest, highest := n.Items[0].Key, n.Items[len(n.Items)-1].Key
	return depth == c.depth && lowest >= from && (to == "" || highest < to)
}
