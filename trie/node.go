package trie

import "strings"

// node is where filters with the same first levels part: what is kept for the filter that ends here, by its keys, and the nodes behind one more level. A map with nothing in it is nil, and no node below is empty: so what was dropped leaves nothing.
type node[V any] struct {
	kept  map[string]Hit[V]
	below map[string]*node[V]
}

func (n *node[V]) isEmpty() bool {
	return n.kept == nil && n.below == nil
}

// grow: the node behind these levels; what is wanting on the way is made.
func (n *node[V]) grow(levels []string) *node[V] {
	for _, level := range levels {
		behind := n.below[level]
		if behind == nil {
			behind = &node[V]{}
			// A level is a piece of its filter: without a copy it would hold all of that, even when the filter was dropped.
			n.below = with(n.below, strings.Clone(level), behind)
		}
		n = behind
	}
	return n
}

// path: this node, and those behind each of these levels; nil: there aren't all of them.
func (n *node[V]) path(levels []string) []*node[V] {
	path := []*node[V]{n}
	for _, level := range levels {
		n = n.below[level]
		if n == nil {
			return nil
		}
		path = append(path, n)
	}
	return path
}

// next: the nodes below some, behind a level of a name; signs: a + may stand for it.
func next[V any](here []*node[V], level string, signs bool) []*node[V] {
	var all []*node[V]
	for _, n := range here {
		// No name has a sign for a level; of a text that has one, the nodes behind it are found as those of signs, and not twice.
		if behind := n.below[level]; behind != nil && level != one && level != rest {
			all = append(all, behind)
		}
		if behind := n.below[one]; behind != nil && signs {
			all = append(all, behind)
		}
	}
	return all
}

// restOf: the nodes of filters that have a # behind some nodes.
func restOf[V any](here []*node[V]) []*node[V] {
	var all []*node[V]
	for _, n := range here {
		if behind := n.below[rest]; behind != nil {
			// Of a text that is no filter levels may stand behind the #: layer 10 doesn't look at these.
			all = append(all, allOf(behind)...)
		}
	}
	return all
}

// allOf: a node, and all those below it, in no order.
func allOf[V any](n *node[V]) []*node[V] {
	all := []*node[V]{n}
	for i := 0; i < len(all); i++ {
		for _, behind := range all[i].below {
			all = append(all, behind)
		}
	}
	return all
}

// with: the map, made if it wasn't, in which a key has this value.
func with[T any](m map[string]T, key string, v T) map[string]T {
	if m == nil {
		m = map[string]T{}
	}
	m[key] = v
	return m
}

// without: the map without a key; nil, if nothing is left in it.
func without[T any](m map[string]T, key string) map[string]T {
	delete(m, key)
	if len(m) == 0 {
		return nil
	}
	return m
}
