package elab

import (
	"gantry/api"
	"gantry/lex"
	"gantry/num"
)

// maxParts is how many parts the tree of a node may have whose text is told.
const maxParts = 4096

// heads are the names of the kinds whose text is a name and the arguments'.
var heads = [...]string{
	api.OpNot: "not",
	api.OpAnd: "and",
	api.OpOr:  "or",
	api.OpXor: "xor",
	api.OpImp: "=>",
	api.OpEq:  "=",
	api.OpIte: "ite",
	api.OpLe:  "<=",
	api.OpLt:  "<",
}

// A writer is a text of nodes that is being written.
type writer struct {
	g     api.Sig
	nodes []api.Node
	text  []byte
}

func (w *writer) long() bool {
	return len(w.text) > api.MaxText
}

func (w *writer) add(s string) {
	w.text = append(w.text, s...)
}

func (w *writer) number(n int) {
	s, _ := num.Text(n) // which may be, as the table may
	w.add(s)
}

// list writes what begins so, and the nodes behind it, up to its end.
func (w *writer) list(begin string, l ...int) {
	w.add("(" + begin)
	for _, id := range l {
		w.add(" ")
		w.node(id)
		if w.long() { // that is told of it, whatever comes
			return
		}
	}
	w.add(")")
}

// node writes the node at that place, which is there.
func (w *writer) node(id int) {
	n := w.nodes[id]
	args := n.Args[:n.Len]
	switch n.Op {
	case api.OpTrue:
		w.add("true")
	case api.OpNum:
		w.number(n.N)
	case api.OpAdd:
		w.offset(args[0], n.N)
	case api.OpDiff:
		w.add("(<= ")
		w.list("-", args...)
		w.add(" ")
		w.number(n.N)
		w.add(")")
	case api.OpApp:
		w.app(lex.Quote(w.g.Funs[n.Fun].Name), args)
	default:
		w.list(heads[n.Op], args...)
	}
}

func (w *writer) offset(id, n int) {
	if n < 0 {
		w.add("(- ")
	} else {
		w.add("(+ ")
	}
	w.node(id)
	w.add(" ")
	w.number(max(n, -n))
	w.add(")")
}

func (w *writer) app(name string, args []int) {
	if len(args) == 0 {
		w.add(name)
		return
	}
	w.list(name, args...)
}
