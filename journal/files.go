package journal

import "journal/api"

// ask has the files do something, and tells their error as P6 asks. A panic of theirs tells ErrFailed: it ends here, and there is no error of theirs to tell.
func ask(do func() error) (err error) {
	defer func() {
		if recover() != nil {
			err = api.ErrFailed
		}
	}()
	if told := do(); told != nil {
		return &api.FailError{Err: told}
	}
	return nil
}

func fileNames(f api.Files) ([]string, error) {
	var names []string
	err := ask(func() (told error) {
		names, told = f.Names()
		return told
	})
	return names, err
}

func readFile(f api.Files, name string) ([]byte, error) {
	var b []byte
	err := ask(func() (told error) {
		b, told = f.Read(name)
		return told
	})
	return b, err
}

func appendFile(f api.Files, name string, b []byte) error {
	return ask(func() error { return f.Append(name, b) })
}

func removeFile(f api.Files, name string) error {
	return ask(func() error { return f.Remove(name) })
}

func cutFile(f api.Files, name string, size int) error {
	return ask(func() error { return f.Cut(name, size) })
}

func syncFile(f api.Files, name string) error {
	return ask(func() error { return f.Sync(name) })
}
