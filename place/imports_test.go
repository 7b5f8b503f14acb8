package place

import (
	"math"
	"slices"
	"testing"

	"gimlet/api"
)

// P13.1: of all these modules' names, names and types the host has two.
func TestImports(t *testing.T) {
	had := 0
	for _, module := range []string{"host", "", "h", "hos", "hosts", "hostg", "hostgetc", "Host", "HOST", " host", "host ", "host\x00", "env", "getc", "putc"} {
		for _, name := range []string{"getc", "putc", "", "get", "put", "etc", "getc ", " putc", "getcs", "putch", "Getc", "PUTC", "getc\x00", "host", "hostgetc", "hostputc"} {
			for _, params := range []int{0, 1, 2, 3, 255} {
				for results := range 2 {
					m := api.Module{Types: []api.FuncType{{Params: params, Results: results}}, Imports: []api.Import{{Module: module, Name: name}}}
					host := 0
					switch {
					case module == "host" && name == "getc" && params == 0 && results == 1:
						host = api.HostGet
					case module == "host" && name == "putc" && params == 1 && results == 0:
						host = api.HostPut
					default:
						newAs(t, module+" "+name, m, api.ErrImport)
						continue
					}
					had++
					hostAs(t, must(t, m), 0, host)
				}
			}
		}
	}
	if had != 2 {
		t.Errorf("%d are had", had)
	}
}

// P13.1: a type is known by what it is, whichever number it has; types that no import has are no matter.
func TestImportTypes(t *testing.T) {
	for at := range 5 {
		m := api.Module{Types: slices.Repeat([]api.FuncType{{Params: 255, Results: 1}}, 5)}
		m.Types[at] = api.FuncType{Results: 1}
		for n := range 5 {
			m.Imports = []api.Import{{Module: "host", Name: "getc", Type: n}}
			if n == at {
				hostAs(t, must(t, m), 0, api.HostGet)
			} else {
				newAs(t, "another type", m, api.ErrImport)
			}
		}
	}
	same := api.Module{Types: []api.FuncType{{Params: 1}, {Results: 1}, {Params: 1}, {Results: 1}}}
	same.Imports = []api.Import{{Module: "host", Name: "getc", Type: 3}, {Module: "host", Name: "putc", Type: 2}, {Module: "host", Name: "getc", Type: 1}}
	p := must(t, same)
	for n, want := range []int{api.HostGet, api.HostPut, api.HostGet, 0} {
		hostAs(t, p, uint32(n), want)
	}
}

// P13.1: one import that the host does not have is enough, wherever it stands; and in each way.
func TestOneImportMissing(t *testing.T) {
	lacked := []api.Import{
		{Module: "host", Name: "getc", Type: typePut},
		{Module: "host", Name: "getc", Type: typeBoth},
		{Module: "host", Name: "putc", Type: typeGet},
		{Module: "host", Name: "putc", Type: typeNone},
		{Module: "hosts", Name: "putc", Type: typePut},
		{Module: "host", Name: "get", Type: typeGet},
		{Module: "", Name: "", Type: typeNone},
	}
	for _, bad := range lacked {
		for at := range 5 {
			m := functions(2)
			m.Imports = []api.Import{getc(), putc(), getc(), putc()}
			newAs(t, "all of them", m, api.OK)
			m.Imports = slices.Insert(m.Imports, at, bad)
			newAs(t, bad.Module+" "+bad.Name, m, api.ErrImport)
		}
	}
}

// P13.2: Host, of imports, of own functions, and of none; of as many imports as there may be.
func TestHost(t *testing.T) {
	m := functions(2)
	m.Imports = []api.Import{putc(), getc(), getc(), putc()}
	p := must(t, m)
	for n, want := range []int{api.HostPut, api.HostGet, api.HostGet, api.HostPut, 0, 0, 0, 0} {
		hostAs(t, p, uint32(n), want)
	}
	for _, n := range []uint32{256, 257, 1 << 16, 1 << 31, 1<<31 + 1, math.MaxUint32 - 3, math.MaxUint32} {
		hostAs(t, p, n, 0)
	}
	for _, none := range []api.Module{{}, functions(3)} {
		p := must(t, none)
		for _, n := range []uint32{0, 1, 2, 3, math.MaxUint32} {
			hostAs(t, p, n, 0)
		}
	}
	m.Imports = slices.Repeat([]api.Import{getc(), putc(), putc()}, api.MaxItems/3)
	m.Imports = append(m.Imports, getc())
	p = must(t, m)
	for n := range uint32(api.MaxItems + 3) {
		want := api.HostPut
		if n%3 == 0 {
			want = api.HostGet
		}
		if n >= api.MaxItems {
			want = 0
		}
		hostAs(t, p, n, want)
	}
	m.Imports[api.MaxItems-1].Name = "gets"
	newAs(t, "the last of many", m, api.ErrImport)
}
