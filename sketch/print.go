package sketch

import (
	"strconv"
	"strings"

	"pianola/api"
	"pianola/lex"
)

// right tells whether a sketch has a one form.
func right(s api.Sketch) bool {
	for _, item := range s.Items {
		if !rightItem(item) {
			return false
		}
	}
	return lex.Name(s.Name)
}

// rightItem tells whether an item has what its Kind has, and nothing else; the places in a text do not count.
func rightItem(item api.Item) bool {
	switch item.Kind {
	case api.ActorItem:
		return lex.Name(item.Name) && lex.Name(item.Tag) && absent(item.From) && absent(item.To)
	case api.EdgeItem:
		return item.Name == "" && item.Tag == "" && lex.Name(item.From.Name) && lex.Name(item.To.Name)
	case api.InItem:
		return lex.Name(item.Name) && bare(item) && absent(item.From) && lex.Name(item.To.Name)
	case api.OutItem:
		return lex.Name(item.Name) && bare(item) && lex.Name(item.From.Name) && absent(item.To)
	}
	return false
}

// bare tells whether an item has neither a tag nor numbers.
func bare(item api.Item) bool { return item.Tag == "" && len(item.Nums) == 0 }

func absent(p api.Place) bool { return p.Name == "" && p.Port == 0 }

// oneForm is the one form of a sketch that is right; of one that is too long, enough of it to tell that.
func oneForm(s api.Sketch) string {
	var text strings.Builder
	text.WriteString("graph " + s.Name + " {\n")
	for _, item := range s.Items {
		if text.Len() > api.MaxText {
			break
		}
		writeItem(&text, item)
	}
	text.WriteString("}\n")
	return text.String()
}

func writeItem(text *strings.Builder, item api.Item) {
	switch item.Kind {
	case api.ActorItem:
		text.WriteString("  actor " + item.Name + " = " + item.Tag)
	case api.EdgeItem:
		text.WriteString("  edge " + placeForm(item.From) + " -> " + placeForm(item.To))
		if len(item.Nums) > 0 {
			text.WriteString(" with")
		}
	case api.InItem:
		text.WriteString("  in " + item.Name + " -> " + placeForm(item.To))
	case api.OutItem:
		text.WriteString("  out " + placeForm(item.From) + " -> " + item.Name)
	}
	writeNumbers(text, item.Nums)
	text.WriteString(";\n")
}

func writeNumbers(text *strings.Builder, ns []int) {
	for _, n := range ns {
		if text.Len() > api.MaxText {
			break
		}
		text.WriteString(" " + strconv.Itoa(n))
	}
}

func placeForm(p api.Place) string { return p.Name + "." + strconv.Itoa(p.Port) }
