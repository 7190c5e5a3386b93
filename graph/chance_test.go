package graph_test

import (
	"slices"
	"strconv"

	"pianola/api"
	"pianola/shape"
)

// chance gives numbers without any order that is to be seen, the same ones at each run.
type chance uint64

func (c *chance) below(n int) int {
	*c = *c*6364136223846793005 + 1442695040888963407
	return int(uint64(*c)>>33) % n
}

func (c *chance) one(of ...string) string { return of[c.below(len(of))] }

func (c *chance) number(of ...int) int { return of[c.below(len(of))] }

func (c *chance) nums(most int) []int {
	var ns []int
	for range c.below(most + 1) {
		ns = append(ns, c.number(least, -1, 0, 1, 2, 7, greatest))
	}
	return ns
}

// actor is an actor that may be, with few ports.
func (c *chance) actor(name string) api.Item {
	word := c.one("filter", "up", "down", "weave", "unweave", "add", "quot", "sum", "copy", "tick", "drop")
	var nums []int
	switch word {
	case "filter":
		nums = append(c.nums(3), 5)
	case "tick":
		nums = []int{c.number(least, 0, greatest), c.number(-1, 3)}
	case "weave", "unweave":
		nums = []int{1 + c.below(3), 1 + c.below(4)}
	case "up", "down", "add", "copy", "drop":
		nums = []int{1 + c.below(3)}
	}
	return api.Item{Kind: api.ActorItem, Name: name, Tag: word, Nums: nums}
}

// sound is a sketch of a sound graph: its items stand in any order, and have any places in a text.
func (c *chance) sound(actors int) api.Sketch {
	s := api.Sketch{Name: c.one("g", "graph", "a0", "x_1")}
	var ins, outs []api.Place
	for i := range actors {
		a := c.actor("a" + strconv.Itoa(i))
		s.Items = append(s.Items, a)
		tag, _ := shape.Tag(a.Tag)
		takes, gives, _ := shape.Of(tag, a.Nums...)
		for port := range takes {
			ins = append(ins, api.Place{Name: a.Name, Port: port})
		}
		for port := range gives {
			outs = append(outs, api.Place{Name: a.Name, Port: port})
		}
	}
	mix(c, ins)
	mix(c, outs)
	for len(ins) > 0 && len(outs) > 0 && (len(ins) > 16 || len(outs) > 16 || c.below(4) > 0) {
		s.Items = append(s.Items, api.Item{Kind: api.EdgeItem, From: outs[0], To: ins[0], Nums: c.nums(3)})
		ins, outs = ins[1:], outs[1:]
	}
	for i, place := range ins {
		s.Items = append(s.Items, api.Item{Kind: api.InItem, Name: "x" + strconv.Itoa(i), To: place})
	}
	for i, place := range outs {
		s.Items = append(s.Items, api.Item{Kind: api.OutItem, Name: "y" + strconv.Itoa(i), From: place})
	}
	mix(c, s.Items)
	c.places(&s)
	return s
}

func mix[T any](c *chance, list []T) {
	for i := range list {
		j := i + c.below(len(list)-i)
		list[i], list[j] = list[j], list[i]
	}
}

// places gives each At a number of its own.
func (c *chance) places(s *api.Sketch) {
	for i := range s.Items {
		at := 10*(i+1) + c.below(2)
		if c.below(9) == 0 {
			at -= 1 << 40
		}
		s.Items[i].At, s.Items[i].From.At, s.Items[i].To.At = at, at+3, at+6
	}
}

// spoil changes one thing of a sketch, which may make it wrong or not.
func (c *chance) spoil(s *api.Sketch) {
	if len(s.Items) == 0 {
		return
	}
	i := c.below(len(s.Items))
	item := &s.Items[i]
	names := []string{"a0", "a1", "a2", "x0", "y0", "y1", "", "A", "abcdefghijklmnop", "abcdefghijklmnopq"}
	ports := []int{least, -1, 0, 1, 2, 3, 16, greatest}
	switch c.below(12) {
	case 0, 1:
		item.Name = c.one(names...)
	case 2:
		item.From.Name = c.one(names...)
	case 3:
		item.To.Name = c.one(names...)
	case 4:
		item.From.Port = c.number(ports...)
	case 5:
		item.To.Port = c.number(ports...)
	case 6:
		item.Tag = c.one("sum", "copy", "no", "", "Sum", "quot")
	case 7:
		item.Nums = c.nums(3)
	case 8:
		s.Items = slices.Delete(s.Items, i, i+1)
	case 9:
		s.Items = append(s.Items, s.Items[i])
		c.places(s)
	case 10:
		if c.below(4) == 0 {
			item.Kind = api.ItemKind(c.below(6))
		}
		item.Nums = slices.Repeat(c.nums(2), 129)
	case 11:
		if c.below(4) == 0 {
			s.Name = c.one(names...)
		}
	}
}

// spoilt is a sound sketch with some things changed.
func (c *chance) spoilt() api.Sketch {
	s := c.sound(1 + c.below(5))
	for range c.below(4) {
		c.spoil(&s)
	}
	return s
}

// crowded is a spoilt sketch that has, of some Kinds, about as many items as a graph may have, or more.
func (c *chance) crowded() api.Sketch {
	s := c.spoilt()
	for _, kind := range []api.ItemKind{api.ActorItem, api.EdgeItem, api.InItem, api.OutItem} {
		if c.below(2) == 0 {
			continue
		}
		some := append(ofKind(s, kind), api.Item{Kind: kind})
		for range most(kind) + c.below(4) - len(some) {
			s.Items = append(s.Items, some[c.below(len(some))])
		}
	}
	mix(c, s.Items)
	c.places(&s)
	return s
}

// turned is the sketch with its items in another order: those of one Kind stand as they stood to one another, those of unlike Kinds do not.
func (c *chance) turned(s api.Sketch) api.Sketch {
	left := map[api.ItemKind][]api.Item{}
	var kinds []api.ItemKind
	for _, item := range s.Items {
		left[item.Kind] = append(left[item.Kind], item)
		kinds = append(kinds, item.Kind)
	}
	c.arrange(kinds)
	t := api.Sketch{Name: s.Name}
	for _, kind := range kinds {
		t.Items = append(t.Items, left[kind][0])
		left[kind] = left[kind][1:]
	}
	return t
}

// arrange puts Kinds in any order: one behind the other, or mixed.
func (c *chance) arrange(kinds []api.ItemKind) {
	if c.below(2) == 0 {
		mix(c, kinds)
		return
	}
	ranks := []int{0, 1, 2, 3, 4}
	mix(c, ranks)
	slices.SortFunc(kinds, func(a, b api.ItemKind) int { return ranks[a] - ranks[b] })
}
