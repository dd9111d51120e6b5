package world

import (
	"slices"

	"quorate/api"
)

// Act: files behind an act.
func Act(l []api.File, a api.Act) []api.File {
	out := slices.Clone(l)
	at := place(out, a.Name)
	switch a.What {
	case api.WriteFile:
		return put(out, a.Name, a.Data)
	case api.AppendFile:
		return put(out, a.Name, dataAt(out, at)+a.Data)
	case api.Cut:
		if at >= 0 {
			out[at].Data = out[at].Data[:min(max(a.Size, 0), len(out[at].Data))]
		}
	case api.Rename:
		if at >= 0 {
			data := out[at].Data
			return append(without(out, a.Name, a.To), api.File{Name: a.To, Data: data})
		}
	case api.RemoveFile:
		return without(out, a.Name)
	}
	return out
}

// place: where the file of a name stands; below 0: there is none.
func place(l []api.File, name string) int {
	return slices.IndexFunc(l, func(f api.File) bool { return f.Name == name })
}

// dataAt: the bytes of the file at a place; where none is there are none.
func dataAt(l []api.File, at int) string {
	if at < 0 {
		return ""
	}
	return l[at].Data
}

// put: a file has these bytes; one that is not there is put at the end.
func put(l []api.File, name, data string) []api.File {
	if at := place(l, name); at >= 0 {
		l[at].Data = data
		return l
	}
	return append(l, api.File{Name: name, Data: data})
}

// without: the files of other names.
func without(l []api.File, names ...string) []api.File {
	return slices.DeleteFunc(l, func(f api.File) bool { return slices.Contains(names, f.Name) })
}
