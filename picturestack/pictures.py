"""Pictures laid on one another: each call takes whole numbers and lists, and answers one list."""

REFUSED = -2
WORD = 4294967296
HALF_WORD = 2147483648
# Places in a picture are told in 64ths, so that a move may end between two of them.
STEPS = 64
HALF_STEPS = 32
# A turn of this size changes nothing: turns are told in parts of it, so that no fraction is needed.
TURN_UNIT = 16384
TURN_MOST = 65536
MOVE_MOST = 8192
SIDE_MOST = 64


# Words hold no sign: numbers below 0 are handed in modulo 2^32.
def signed(word):
    if word >= HALF_WORD:
        return word - WORD
    return word


def all_within(numbers, least, most):
    return all([least <= number <= most for number in numbers])


def all_turns(numbers):
    return all_within(numbers, -TURN_MOST, TURN_MOST)


def all_moves(numbers):
    return all_within(numbers, -MOVE_MOST, MOVE_MOST)


def all_sides(numbers):
    return all_within(numbers, 1, SIDE_MOST)


# Both are doubled, so that half of the divisor is whole and of two as near the greater comes out.
def rounded(dividend, divisor):
    return (2 * dividend + divisor) // (2 * divisor)


def middle(index):
    return STEPS * index + HALF_STEPS


# Asked by column and row: an index into the list would go over from one row's end to the next row.
def in_picture(column, row, w, h):
    return 0 <= column < w and 0 <= row < h


# Each of the four as its column, its row and its part; they may lie outside of the picture.
def four_places(x, y):
    i = (x - HALF_STEPS) // STEPS
    j = (y - HALF_STEPS) // STEPS
    p = (x - HALF_STEPS) % STEPS
    q = (y - HALF_STEPS) % STEPS
    return [
        (i, j, (STEPS - p) * (STEPS - q)),
        (i + 1, j, p * (STEPS - q)),
        (i, j + 1, (STEPS - p) * q),
        (i + 1, j + 1, p * q),
    ]


# Divided by the cover and not by all parts: what is missing must not make the number darker.
def between_four(x, y, w, h, f, bad):
    total = 0
    cover = 0
    for column, row, part in four_places(x, y):
        if in_picture(column, row, w, h) and bad[row * w + column] == 0:
            total += f[row * w + column] * part
            cover += part
    if cover == 0:
        return (0, 0)
    return (rounded(total, cover), cover)


# The new places are carried to the old ones, not the other way: so each new place is reached just once.
def placed(turns, moves, u1, v1, w, h, f, bad):
    found = []
    for row in range(v1):
        y = middle(row)
        for column in range(u1):
            x = middle(column)
            old_x = (turns[0] * x - turns[1] * y) // TURN_UNIT + moves[0]
            old_y = (turns[1] * x + turns[0] * y) // TURN_UNIT + moves[1]
            found.append(between_four(old_x, old_y, w, h, f, bad))
    return found


def sm_place(a, b, c, d, u1, v1, w, h, f, bad):
    turns = [signed(a), signed(b)]
    moves = [signed(c), signed(d)]
    if not (all_turns(turns) and all_moves(moves) and all_sides([u1, v1, w, h])):
        return [REFUSED]
    found = placed(turns, moves, u1, v1, w, h, f, bad)
    numbers = [pair[0] for pair in found]
    covers = [pair[1] for pair in found]
    return [0, len(numbers)] + numbers + [len(covers)] + covers


def sm_move(dx, dy, w, h, f):
    right = signed(dx)
    down = signed(dy)
    if not (all_moves([right, down]) and all_sides([w, h])):
        return [REFUSED]
    answer = [0]
    for row in range(h):
        for column in range(w):
            if in_picture(column - right, row - down, w, h):
                answer.append(f[(row - down) * w + column - right])
            else:
                answer.append(0)
    return answer
