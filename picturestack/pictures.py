"""Pictures laid on one another: each call takes whole numbers and lists, and answers one list."""

REFUSED = -2
WORD = 4294967296
HALF_WORD = 2147483648
# Places in a picture are told in 64ths, so that a move may end between two of them.
STEPS = 64
HALF_STEPS = 32
# A turn of this size changes nothing: turns are told in parts of it, so that no fraction is needed.
TURN_UNIT = 16384
TURN_MOST = 65536
MOVE_MOST = 8192
SIDE_MOST = 64
PLACES_MOST = 4096
PICTURES_MOST = 16
LEAST_MOST = 65535
# How far off is told in quarters, so that no fraction is needed.
QUARTERS = 4
QUARTERS_MOST = 256
FINER_MOST = 4
SQUARE_MOST = 64
NUMBER_MOST = 65535
# A gain of this size changes nothing: gains are told in parts of it, so that no fraction is needed.
GAIN_UNIT = 4096
GAIN_MOST = 16777216
OFFSET_MOST = 65536


# Words hold no sign: numbers below 0 are handed in modulo 2^32.
def signed(word):
    if word >= HALF_WORD:
        return word - WORD
    return word


def all_within(numbers, least, most):
    return all([least <= number <= most for number in numbers])


def all_turns(numbers):
    return all_within(numbers, -TURN_MOST, TURN_MOST)


def all_moves(numbers):
    return all_within(numbers, -MOVE_MOST, MOVE_MOST)


def all_sides(numbers):
    return all_within(numbers, 1, SIDE_MOST)


# Both are doubled, so that half of the divisor is whole and of two as near the greater comes out.
# Where nothing was seen there is nothing to divide by, and each such number is to be 0.
def rounded(dividend, divisor):
    if divisor == 0:
        return 0
    return (2 * dividend + divisor) // (2 * divisor)


# Each list stands behind its length: so where the next one begins can be read off the answer alone.
def told(lists):
    answer = [0]
    for numbers in lists:
        answer.append(len(numbers))
        answer.extend(numbers)
    return answer


def middle(index):
    return STEPS * index + HALF_STEPS


# Asked by column and row: an index into the list would go over from one row's end to the next row.
def in_picture(column, row, w, h):
    return 0 <= column < w and 0 <= row < h


# Each of the four as its column, its row and its part; they may lie outside of the picture.
def four_places(x, y):
    i = (x - HALF_STEPS) // STEPS
    j = (y - HALF_STEPS) // STEPS
    p = (x - HALF_STEPS) % STEPS
    q = (y - HALF_STEPS) % STEPS
    return [
        (i, j, (STEPS - p) * (STEPS - q)),
        (i + 1, j, p * (STEPS - q)),
        (i, j + 1, (STEPS - p) * q),
        (i + 1, j + 1, p * q),
    ]


# Divided by the cover and not by all parts: what is missing must not make the number darker.
def between_four(x, y, w, h, f, bad):
    total = 0
    cover = 0
    for column, row, part in four_places(x, y):
        if in_picture(column, row, w, h) and bad[row * w + column] == 0:
            total += f[row * w + column] * part
            cover += part
    return (rounded(total, cover), cover)


# The new places are carried to the old ones, not the other way: so each new place is reached just once.
def placed(turns, moves, u1, v1, w, h, f, bad):
    found = []
    for row in range(v1):
        y = middle(row)
        for column in range(u1):
            x = middle(column)
            old_x = (turns[0] * x - turns[1] * y) // TURN_UNIT + moves[0]
            old_y = (turns[1] * x + turns[0] * y) // TURN_UNIT + moves[1]
            found.append(between_four(old_x, old_y, w, h, f, bad))
    return found


def sm_place(a, b, c, d, u1, v1, w, h, f, bad):
    turns = [signed(a), signed(b)]
    moves = [signed(c), signed(d)]
    if not (all_turns(turns) and all_moves(moves) and all_sides([u1, v1, w, h])):
        return [REFUSED]
    found = placed(turns, moves, u1, v1, w, h, f, bad)
    return told([[number for number, cover in found], [cover for number, cover in found]])


def sm_move(dx, dy, w, h, f):
    right = signed(dx)
    down = signed(dy)
    if not (all_moves([right, down]) and all_sides([w, h])):
        return [REFUSED]
    answer = [0]
    for row in range(h):
        for column in range(w):
            if in_picture(column - right, row - down, w, h):
                answer.append(f[(row - down) * w + column - right])
            else:
                answer.append(0)
    return answer


# How many pictures there are is told by the length alone: compared with n and not divided by it, since n may be 0.
def is_stack(n, x):
    return 1 <= n <= PLACES_MOST and n <= len(x) <= PICTURES_MOST * n


# The pictures lie one behind the other: the same place comes again n numbers later.
def at_place(place, n, x):
    return x[place::n]


# Of two in the middle the lower, and not their mean: so it is always one of the numbers.
def middle_one(numbers):
    return sorted(numbers)[(len(numbers) - 1) // 2]


# Each sample is a number with its cover. With alike numbers the usual distance is 0, and would refuse the least noise.
def without_far_ones(samples, q):
    if len(samples) == 0:
        return []
    centre = middle_one([number for number, cover in samples])
    usual = max(1, middle_one([abs(number - centre) for number, cover in samples]))
    return [(number, cover) for number, cover in samples if QUARTERS * abs(number - centre) <= q * usual]


# A cover of 0 is never taken, not even with least 0: nothing was seen there.
def summed(numbers, covers, least, q):
    samples = [(number, cover) for number, cover in zip(numbers, covers) if cover >= max(1, least)]
    near = without_far_ones(samples, q)
    together = sum([cover for number, cover in near])
    total = sum([number * cover for number, cover in near])
    return (rounded(total, together), len(near), together)


def sm_stack(n, least, q, x, cover):
    if not (is_stack(n, x) and least <= LEAST_MOST and q <= QUARTERS_MOST):
        return [REFUSED]
    found = [summed(at_place(place, n, x), at_place(place, n, cover), least, q) for place in range(n)]
    return told([[one[0] for one in found], [one[1] for one in found], [one[2] for one in found]])


def sm_ends(n, x):
    if not is_stack(n, x):
        return [REFUSED]
    stacks = [at_place(place, n, x) for place in range(n)]
    return told([[min(numbers) for numbers in stacks], [max(numbers) for numbers in stacks]])


def shared_width(start, width, place):
    first = max(start, STEPS * place)
    end = min(start + width, STEPS * (place + 1))
    return max(0, end - first)


# Along one side alone: squares stand upright, so what two of them share is a width times a height.
# Of each new place, the old ones that reach it, each with the width that both share.
def reaching(s, p, move, old_side, new_side):
    width = p * s
    starts = [middle(old) * s + move - width // 2 for old in range(old_side)]
    found = []
    for new in range(new_side):
        shares = [(old, shared_width(start, width, new)) for old, start in enumerate(starts)]
        found.append([(old, share) for old, share in shares if share > 0])
    return found


def gathered(columns, rows, w, f):
    total = 0
    much = 0
    for row, height in rows:
        for column, width in columns:
            total += f[row * w + column] * width * height
            much += width * height
    return (total, much)


def sm_drop(s, p, dx, dy, u1, v1, w, h, f):
    right = signed(dx)
    down = signed(dy)
    fits = 1 <= s <= FINER_MOST and 1 <= p <= SQUARE_MOST
    if not (fits and all_moves([right, down]) and all_sides([u1, v1, w, h])):
        return [REFUSED]
    across = reaching(s, p, right, w, u1)
    found = []
    for rows in reaching(s, p, down, h, v1):
        for columns in across:
            found.append(gathered(columns, rows, w, f))
    return told([[total for total, much in found], [much for total, much in found]])


# How many numbers there are is told by the length alone; none at all is fine.
def too_long(numbers):
    return len(numbers) > PLACES_MOST


# A word holds what is answered: a quotient may be greater where much is small.
def sm_finish(sums, much):
    if too_long(sums):
        return [REFUSED]
    return [0] + [rounded(total, part) % WORD for total, part in zip(sums, much)]


# Held at the ends and not taken modulo: the brightest places must not come out dark.
def levelled(number, gain, offset):
    return max(0, min(NUMBER_MOST, rounded(number * gain, GAIN_UNIT) + offset))


def sm_level(g, o, l):
    offset = signed(o)
    if g > GAIN_MOST or abs(offset) > OFFSET_MOST or too_long(l):
        return [REFUSED]
    return [0] + [levelled(number, g, offset) for number in l]


# A word holds what is answered: the gain may be greater where b is dark.
def sm_gain(a, b):
    if too_long(a):
        return [REFUSED]
    return [0, rounded(GAIN_UNIT * sum(a), sum(b)) % WORD]


# Words hold no sign: what is below 0 is told modulo 2^32.
def sm_less(a, b):
    if too_long(a):
        return [REFUSED]
    return [0] + [(number - other) % WORD for number, other in zip(a, b)]
