"""Promise 3: sm_drop."""

import unittest
from collections import Counter

from picturestack.pictures import sm_drop
from tests.support import assert_plain_answer, assert_ranges, assert_same_twice, pattern, picture_of, told, word


def drop(s, p, dx, dy, u1, v1, w, h, f):
    """The call with numbers as they are meant."""
    return sm_drop(s, p, word(dx), word(dy), u1, v1, w, h, f)


def one_square(s, p, dx, dy, u1, v1):
    """How much of a single place's square overlaps each new place, with the sums checked against it."""
    answer = drop(s, p, dx, dy, u1, v1, 1, 1, [7])
    much = answer[-u1 * v1:]
    assert answer == told([7 * one for one in much], much)
    return much


def counted(start, width):
    """How many 64ths of a stretch lie in each new place, one by one."""
    return Counter(step // 64 for step in range(start, start + width))


def drop_by_64ths(s, p, dx, dy, u1, v1, w, h, f):
    """Each old place's square laid down, its 64ths counted along both sides."""
    sums, much = [[0] * u1 for r in range(v1)], [[0] * u1 for r in range(v1)]
    width = p * s
    across = [counted((64 * c + 32) * s + dx - width // 2, width) for c in range(w)]
    along = [counted((64 * r + 32) * s + dy - width // 2, width) for r in range(h)]
    for index, number in enumerate(f):
        for row, high in along[index // w].items():
            for column, wide in across[index % w].items():
                if 0 <= row < v1 and 0 <= column < u1:
                    sums[row][column] += number * high * wide
                    much[row][column] += high * wide
    return told([one for row in sums for one in row], [one for row in much for one in row])


class Ordinary(unittest.TestCase):
    def test_twice_as_fine_and_moved_by_a_part(self):
        # Across, the square goes from 64 + 16 - 32 = 48 to 112, that is 16 and 48; down from 32 to 96, 32 and 32.
        got = drop(2, 32, 16, 0, 2, 2, 1, 1, [10])
        self.assertEqual(got, told([5120, 15360, 5120, 15360], [512, 1536, 512, 1536]))

    def test_several_places(self):
        # Across, the squares go from 40 to 104 and from 168 to 232: 24 and 40, then 24 and 40.
        # Down, they go from 56 to 120: 8 and 56.
        got = drop(2, 32, 8, 24, 4, 2, 2, 1, [100, 200])
        much = [24 * 8, 40 * 8, 24 * 8, 40 * 8, 24 * 56, 40 * 56, 24 * 56, 40 * 56]
        sums = [number * one for number, one in zip([100, 100, 200, 200] * 2, much)]
        self.assertEqual(got, told(sums, much))

    def test_two_squares_on_one_place(self):
        # Half a place on: the middle new place has a half of each old one.
        got = drop(1, 64, 32, 0, 3, 1, 2, 1, [10, 30])
        self.assertEqual(got, told([10 * 2048, 40 * 2048, 30 * 2048], [2048, 4096, 2048]))
        got = drop(1, 64, 0, 32, 1, 3, 1, 2, [10, 30])
        self.assertEqual(got, told([10 * 2048, 40 * 2048, 30 * 2048], [2048, 4096, 2048]))

    def test_four_squares_on_one_place(self):
        got = drop(1, 64, -16, -8, 1, 1, 2, 2, [1, 10, 100, 1000])
        self.assertEqual(got, told([48 * 56 + 16 * 56 * 10 + 48 * 8 * 100 + 16 * 8 * 1000], [4096]))

    def test_rows_of_the_old_and_of_the_new(self):
        # Not square, neither the old one nor the new one: one new place for each old one, in a corner of its own.
        got = drop(1, 2, 0, 0, 4, 3, 3, 2, [1, 2, 3, 4, 5, 6])
        self.assertEqual(got, told([4, 8, 12, 0, 16, 20, 24, 0, 0, 0, 0, 0], [4, 4, 4, 0, 4, 4, 4, 0, 0, 0, 0, 0]))
        got = drop(1, 2, 0, 0, 2, 3, 3, 2, [1, 2, 3, 4, 5, 6])
        self.assertEqual(got, told([4, 8, 16, 20, 0, 0], [4, 4, 4, 4, 0, 0]))

    def test_against_counted_64ths(self):
        moves = [(0, 0), (-17, 45), (131, -70), (-64, 64), (1, -1), (300, 500), (-8192, 8192)]
        for s in (1, 2, 3, 4):
            for p in (1, 2, 7, 32, 33, 63, 64):
                for dx, dy in moves:
                    for u1, v1, w, h in [(6, 5, 3, 2), (3, 7, 1, 4), (1, 1, 2, 2), (9, 8, 2, 3)]:
                        f = pattern(w * h)
                        with self.subTest(s=s, p=p, dx=dx, dy=dy, u1=u1, v1=v1, w=w, h=h):
                            got = drop(s, p, dx, dy, u1, v1, w, h, f)
                            self.assertEqual(got, drop_by_64ths(s, p, dx, dy, u1, v1, w, h, f))

    def test_the_form_of_the_answer(self):
        got = drop(2, 32, 5, -9, 5, 3, 4, 2, pattern(8))
        self.assertEqual(len(got), 1 + 2 * (1 + 15))
        self.assertEqual([got[0], got[1], got[17]], [0, 15, 15])
        assert_plain_answer(self, got)


class Edges(unittest.TestCase):
    def test_onto_its_own_grid(self):
        for w, h in [(1, 1), (1, 64), (64, 1), (64, 64), (5, 3)]:
            f = pattern(w * h)
            got = drop(1, 64, 0, 0, w, h, w, h, f)
            self.assertEqual(got, told([4096 * number for number in f], [4096] * (w * h)))

    def test_no_light_is_lost(self):
        for s in (1, 2, 3, 4):
            for p in (1, 5, 32, 63, 64):
                for w, h in [(1, 1), (4, 3), (16, 16)]:
                    f = pattern(w * h)
                    rim = (64 * s - p * s) // 2
                    for dx, dy in [(0, 0), (rim, -rim), (-rim, rim), (rim // 2, rim // 3)]:
                        got = drop(s, p, dx, dy, s * w, s * h, w, h, f)
                        count = s * w * s * h
                        self.assertEqual(sum(got[2:2 + count]), sum(f) * (p * s) ** 2)
                        self.assertEqual(sum(got[3 + count:]), w * h * (p * s) ** 2)

    def test_no_light_is_lost_on_a_larger_picture(self):
        f = pattern(12)
        for dx, dy in [(64, 128), (33, 95), (77, 1), (128, 64)]:
            got = drop(1, 64, dx, dy, 6, 5, 4, 3, f)
            self.assertEqual(sum(got[2:32]), sum(f) * 4096)
            self.assertEqual(sum(got[33:]), 12 * 4096)

    def test_partly_outside_to_each_side(self):
        self.assertEqual(one_square(1, 64, -16, 0, 1, 1), [48 * 64])
        self.assertEqual(one_square(1, 64, 16, 0, 1, 1), [48 * 64])
        self.assertEqual(one_square(1, 64, 0, -24, 1, 1), [64 * 40])
        self.assertEqual(one_square(1, 64, 0, 24, 1, 1), [64 * 40])
        self.assertEqual(one_square(1, 64, -16, 24, 1, 1), [48 * 40])
        self.assertEqual(one_square(2, 64, 0, 0, 1, 2), [4096, 4096])

    def test_one_64th_is_left(self):
        for dx, dy in [(63, 0), (-63, 0), (0, 63), (0, -63)]:
            self.assertEqual(one_square(1, 64, dx, dy, 1, 1), [64])
        for dx, dy in [(63, 63), (-63, 63), (63, -63), (-63, -63)]:
            self.assertEqual(one_square(1, 64, dx, dy, 1, 1), [1])

    def test_wholly_outside_to_each_side(self):
        for far in (64, 65, 200, 8192):
            for dx in (-far, 0, far):
                for dy in (-far, far):
                    self.assertEqual(one_square(1, 64, dx, dy, 1, 1), [0])
                    self.assertEqual(one_square(1, 64, dy, dx, 1, 1), [0])
        self.assertEqual(drop(1, 64, 8192, -8192, 2, 2, 2, 2, [1, 2, 3, 4]), told([0] * 4, [0] * 4))

    def test_what_is_outside_is_not_the_next_row(self):
        self.assertEqual(one_square(1, 64, 64, 0, 2, 2), [0, 4096, 0, 0])
        self.assertEqual(one_square(1, 64, 128, 0, 2, 2), [0, 0, 0, 0])
        self.assertEqual(one_square(1, 64, -64, 64, 2, 2), [0, 0, 0, 0])

    def test_half_of_an_odd_width_is_rounded_down(self):
        # From 32 + 32 - (3 / 2) = 63 to 66.
        self.assertEqual(one_square(1, 3, 32, 0, 2, 1), [1 * 3, 2 * 3])
        self.assertEqual(one_square(1, 3, 0, 32, 1, 2), [3 * 1, 3 * 2])
        # From 64 - (1 / 2) = 64 to 65: what is rounded down is the half, not the place where it begins.
        self.assertEqual(one_square(1, 1, 32, 0, 2, 1), [0, 1])
        self.assertEqual(one_square(1, 1, 31, 0, 2, 1), [1, 0])
        self.assertEqual(one_square(1, 1, 0, 32, 1, 2), [0, 1])
        # From 96 + 32 - (9 / 2) = 124 to 133.
        self.assertEqual(one_square(3, 3, 32, -32, 3, 1)[1:], [4 * 4, 5 * 4])
        # Even ones are as wide to both sides.
        self.assertEqual(one_square(1, 2, 32, 0, 2, 1), [1 * 2, 1 * 2])
        self.assertEqual(one_square(2, 1, 0, 0, 2, 2), [1, 1, 1, 1])

    def test_moves_below_0(self):
        f = pattern(4)
        got = sm_drop(2, 32, 4294967295, 4294967295 - 39, 4, 4, 2, 2, f)
        self.assertEqual(got, drop_by_64ths(2, 32, -1, -40, 4, 4, 2, 2, f))
        # From 64 - 1 - 32 = 31 to 95, down from 64 - 40 - 32 = -8 to 56.
        got = sm_drop(2, 32, 4294967295, 4294967295 - 39, 2, 1, 1, 1, [1])
        self.assertEqual(got, told([33 * 56, 31 * 56], [33 * 56, 31 * 56]))

    def test_the_ends_of_s_and_p(self):
        self.assertEqual(one_square(1, 1, 0, 0, 1, 1), [1])
        self.assertEqual(one_square(4, 1, 0, 0, 4, 4), [0] * 5 + [4, 4, 0, 0, 4, 4] + [0] * 5)
        self.assertEqual(one_square(4, 64, 0, 0, 4, 4), [4096] * 16)
        self.assertEqual(one_square(1, 64, 0, 0, 1, 1), [4096])

    def test_sides_of_1_and_of_64(self):
        for s, p, dx, dy in [(1, 64, 0, 0), (1, 63, 17, -31), (4, 64, 5, 5), (4, 1, -2, 1), (2, 32, -4000, -4000)]:
            for w, h in [(1, 1), (1, 64), (64, 1), (64, 64)]:
                for u1, v1 in [(1, 1), (1, 64), (64, 1), (64, 64)]:
                    f = pattern(w * h)
                    got = drop(s, p, dx, dy, u1, v1, w, h, f)
                    self.assertEqual(got, drop_by_64ths(s, p, dx, dy, u1, v1, w, h, f), (s, p, dx, dy, w, h, u1, v1))

    def test_the_farthest_moves(self):
        # With s 4 a column is 256 wide: moved by -8192, column 32 is the first that is seen, from 62 to 194.
        f = pattern(64)
        for dx in (-8192, 8192):
            for u1 in (1, 64):
                self.assertEqual(drop(4, 33, dx, 0, u1, 4, 64, 1, f), drop_by_64ths(4, 33, dx, 0, u1, 4, 64, 1, f))
                self.assertEqual(drop(4, 33, 0, dx, 4, u1, 1, 64, f), drop_by_64ths(4, 33, 0, dx, 4, u1, 1, 64, f))
        got = drop(4, 33, -8192, 0, 4, 1, 64, 1, [1] * 32 + [10] + [100] * 31)
        # Down, the square goes from 62 on, so that 2 are on the first row.
        self.assertEqual(got, told([40, 1280, 1280, 40], [4, 128, 128, 4]))

    def test_the_ends_of_numbers(self):
        self.assertEqual(drop(1, 64, 0, 0, 2, 1, 2, 1, [65535, 0]), told([65535 * 4096, 0], [4096, 4096]))


class WrongInputs(unittest.TestCase):
    BASE = {"s": 2, "p": 32, "dx": 5, "dy": 9, "u1": 3, "v1": 2, "w": 4, "h": 2}
    RANGES = {
        "s": (1, 4), "p": (1, 64), "dx": (-8192, 8192), "dy": (-8192, 8192),
        "u1": (1, 64), "v1": (1, 64), "w": (1, 64), "h": (1, 64),
    }

    def test_each_range(self):
        assert_ranges(self, sm_drop, self.BASE, self.RANGES, picture_of)

    def test_the_greatest_words(self):
        for name in ("s", "p", "u1", "v1", "w", "h"):
            numbers = dict(self.BASE, **{name: 4294967295})
            self.assertEqual(sm_drop(**numbers, f=[]), [-2])

    def test_wide_and_low_with_lists(self):
        for w, h in [(65, 1), (1, 65), (65, 64), (64, 65), (5000, 1), (1, 5000)]:
            self.assertEqual(sm_drop(1, 64, 0, 0, 1, 1, w, h, pattern(w * h)), [-2])

    def test_all_wrong_at_once(self):
        self.assertEqual(sm_drop(0, 0, 8193, 8193, 0, 0, 0, 0, []), [-2])


class StandsAlone(unittest.TestCase):
    def test_nothing_is_changed_or_kept(self):
        numbers = [2, 33, word(-20), 31, 6, 7, 4, 5]
        kept = assert_same_twice(self, sm_drop, numbers, [pattern(20)])
        sm_drop(4, 64, 0, 0, 64, 64, 64, 64, pattern(4096))
        sm_drop(5, 64, 0, 0, 1, 1, 1, 1, [1])
        self.assertEqual(assert_same_twice(self, sm_drop, numbers, [pattern(20)]), kept)

    def test_a_refusal_is_the_same_twice(self):
        self.assertEqual(assert_same_twice(self, sm_drop, [1, 65, 0, 0, 1, 1, 2, 1], [[1, 2]]), [-2])


if __name__ == "__main__":
    unittest.main()
