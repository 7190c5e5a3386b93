package sketch

import "pianola/api"

// parser reads a sketch from its tokens. At a token that may not stand there it panics, and has not gone behind it: so whoever recovers finds it as the next one.
type parser struct {
	reader
}

// need is the next token, if it may stand there.
func (p *parser) need(may bool) api.Token {
	if !may {
		panic(api.ErrToken)
	}
	return p.pass()
}

func (p *parser) expect(text string) { p.need(p.says(text)) }

func (p *parser) name() string { return p.need(p.is(api.Word)).Text }

func (p *parser) number() int { return p.need(p.is(api.Number)).Num }

// numbers are as many as stand there.
func (p *parser) numbers() []int {
	var ns []int
	for p.is(api.Number) {
		ns = append(ns, p.number())
	}
	return ns
}

func (p *parser) place() api.Place {
	place := api.Place{At: p.ahead().At}
	place.Name = p.name()
	p.expect(".")
	place.Port = p.number()
	return place
}

func (p *parser) sketch() api.Sketch {
	p.expect("graph")
	s := api.Sketch{Name: p.name()}
	p.expect("{")
	for !p.says("}") {
		s.Items = append(s.Items, p.item())
	}
	p.expect("}")
	p.need(p.is(api.End))
	return s
}

func (p *parser) item() api.Item {
	item := api.Item{At: p.ahead().At}
	switch {
	case p.says("actor"):
		p.actor(&item)
	case p.says("edge"):
		p.edge(&item)
	case p.says("in"):
		p.in(&item)
	default: // a word of none of the four, too, which out gives up
		p.out(&item)
	}
	p.expect(";")
	return item
}

func (p *parser) actor(item *api.Item) {
	p.expect("actor")
	item.Kind = api.ActorItem
	item.Name = p.name()
	p.expect("=")
	item.Tag = p.name()
	item.Nums = p.numbers()
}

func (p *parser) edge(item *api.Item) {
	p.expect("edge")
	item.Kind = api.EdgeItem
	item.From = p.place()
	p.expect("->")
	item.To = p.place()
	if p.says("with") {
		p.pass()
		item.Nums = append(item.Nums, p.number())
		item.Nums = append(item.Nums, p.numbers()...)
	}
}

func (p *parser) in(item *api.Item) {
	p.expect("in")
	item.Kind = api.InItem
	item.Name = p.name()
	p.expect("->")
	item.To = p.place()
}

func (p *parser) out(item *api.Item) {
	p.expect("out")
	item.Kind = api.OutItem
	item.From = p.place()
	p.expect("->")
	item.Name = p.name()
}
