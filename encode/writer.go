package encode

import "gimlet/api"

// writer writes the sections of a well-formed module, each into the buffer.
type writer struct {
	buffer
	m    api.Module
	most int // how many bytes are of use: a section that has more need not be whole
}

// sections returns what writes each section, in the order of their numbers, which begin at 1.
func (w *writer) sections() []func() {
	return []func(){
		w.types, w.imports, w.funcs, w.tables, w.memories, w.globals,
		w.exports, w.start, w.elems, w.codes, w.datas,
	}
}

func (w *writer) types() { list(w, w.m.Types, w.funcType) }

func (w *writer) imports() { list(w, w.m.Imports, w.imported) }

func (w *writer) funcs() { list(w, w.m.Funcs, w.typeOf) }

func (w *writer) tables() { list(w, w.m.Tables, w.table) }

func (w *writer) memories() { list(w, w.m.Memories, w.memory) }

func (w *writer) globals() { list(w, w.m.Globals, w.global) }

func (w *writer) exports() { list(w, w.m.Exports, w.exported) }

func (w *writer) start() {
	if w.m.Started {
		w.number(w.m.Start)
	}
}

func (w *writer) elems() { list(w, w.m.Elems, w.elem) }

func (w *writer) codes() { list(w, w.m.Funcs, w.code) }

func (w *writer) datas() { list(w, w.m.Datas, w.data) }

// list writes how many items there are, and each of them; of an empty list nothing, so that its section is omitted.
func list[T any](w *writer, l []T, item func(T)) {
	if len(l) == 0 {
		return
	}
	w.number(uint32(len(l)))
	for _, x := range l {
		item(x)
		// Items can share one long list, and have thousands of times the bytes that a module may have.
		if len(w.buffer) > w.most {
			return
		}
	}
}
