package script

import "twine/api"

// form: a line of the script's table. places: what stands behind the word, a letter each: see read and write.
type form struct {
	word       string
	kind, edit int
	places     string
}

var forms = [...]form{
	{"mkdir", api.StepEdit, api.EditMkdir, "vpm"},
	{"file", api.StepEdit, api.EditFile, "vpdm"},
	{"link", api.StepEdit, api.EditLink, "vpt"},
	{"write", api.StepEdit, api.EditWrite, "vpd"},
	{"append", api.StepEdit, api.EditAppend, "vpd"},
	{"chmod", api.StepEdit, api.EditChmod, "vpm"},
	{"rename", api.StepEdit, api.EditRename, "vpt"},
	{"exchange", api.StepEdit, api.EditExchange, "vpt"},
	{"remove", api.StepEdit, api.EditRemove, "vp"},
	{"sync", api.StepEdit, api.EditSync, "vp"},
	{"settle", api.StepEdit, api.EditSettle, "v"},
	{"begin", api.StepBegin, 0, "r"},
	{"do", api.StepDo, 0, "o"},
	{"finish", api.StepEnd, 0, ""},
	{"tick", api.StepTick, 0, "o"},
	{"fall", api.StepFall, 0, "nk"},
	{"rig", api.StepRig, 0, "vabcw"},
	{"cancel", api.StepCancel, 0, ""},
	{"forget", api.StepForget, 0, ""},
	{"report", api.StepReport, 0, ""},
	{"show", api.StepShow, 0, "v"},
}

// formOfWord tells the form whose lines begin with a word.
func formOfWord(w word) (form, bool) {
	for _, f := range forms {
		if w.is(f.word) {
			return f, true
		}
	}
	return form{}, false
}

// formOfKind tells the form of a step's kind and of its edit's.
func formOfKind(kind, edit int) (form, bool) {
	for _, f := range forms {
		if f.kind == kind && f.edit == edit {
			return f, true
		}
	}
	return form{}, false
}

// volumeWord tells a volume's word; of what is no volume one that nobody reads.
func volumeWord(v int) string {
	switch v {
	case api.A:
		return "a"
	case api.B:
		return "b"
	case api.S:
		return "s"
	}
	return "?"
}
