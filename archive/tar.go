package archive

import (
	"bytes"

	"larder/api"
	"larder/control"
)

// endSize is how many zero bytes stand behind a ustar's last file.
const endSize = 2 * blockSize

// Tar tells the ustar of files.
func Tar(files []api.Blob) ([]byte, api.Errno) {
	if e := checkFiles(files); e != api.OK {
		return nil, e
	}
	size := tarSize(files)
	if size > api.MaxInput {
		return nil, api.ErrLong
	}
	data := make([]byte, size)
	at := 0
	for _, f := range files {
		h, _ := headerOf(f.Name, len(f.Data))
		at += copy(data[at:], h[:])
		copy(data[at:], f.Data)
		at += filled(len(f.Data))
	}
	return data, api.OK
}

// checkFiles tells the first error of single files.
func checkFiles(files []api.Blob) api.Errno {
	for _, f := range files {
		if e := control.CheckPath(f.Name); e != api.OK {
			return e
		}
		if len(f.Data) > api.MaxFile {
			return api.ErrArcSize
		}
	}
	return api.OK
}

func tarSize(files []api.Blob) int {
	size := endSize
	for _, f := range files {
		size += blockSize + filled(len(f.Data))
	}
	return size
}

// filled tells how many bytes so many take up with their filling.
func filled(size int) int { return (size + blockSize - 1) / blockSize * blockSize }

// Untar tells the files of a ustar.
func Untar(data []byte) ([]api.Blob, api.Errno) {
	if len(data) > api.MaxInput {
		return nil, api.ErrLong
	}
	var files []api.Blob
	for {
		if len(data) < blockSize {
			return nil, api.ErrArcShort
		}
		var h header
		data = data[copy(h[:], data):]
		if h == (header{}) {
			break
		}
		file, rest, e := takeFile(&h, data)
		if e != api.OK {
			return nil, e
		}
		files, data = append(files, file), rest
	}
	if e := checkEnd(data); e != api.OK {
		return nil, e
	}
	return files, api.OK
}

// takeFile tells a header's file, of the bytes behind the header, and what is left of them.
func takeFile(h *header, data []byte) (file api.Blob, rest []byte, e api.Errno) {
	path, size, ok := h.told()
	switch {
	case !ok:
		return api.Blob{}, nil, api.ErrArcHeader
	case size > api.MaxFile:
		return api.Blob{}, nil, api.ErrArcSize
	case len(data) < filled(size):
		return api.Blob{}, nil, api.ErrArcShort
	case !allZero(data[size:filled(size)]):
		return api.Blob{}, nil, api.ErrArcPad
	}
	return api.Blob{Name: path, Data: bytes.Clone(data[:size])}, data[filled(size):], api.OK
}

// checkEnd tells what is wrong behind the first zero block.
func checkEnd(data []byte) api.Errno {
	switch {
	case len(data) < blockSize:
		return api.ErrArcShort
	case !allZero(data[:blockSize]):
		return api.ErrArcPad
	case len(data) > blockSize:
		return api.ErrArcRest
	}
	return api.OK
}

func allZero(data []byte) bool {
	for _, b := range data {
		if b != 0 {
			return false
		}
	}
	return true
}
