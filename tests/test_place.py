"""Promise 1: sm_place."""

import unittest
from fractions import Fraction
from math import floor

from picturestack.pictures import sm_place
from tests.support import assert_plain_answer, assert_ranges, assert_same_twice, pattern, places_of, spots, told, word

ONE = 16384


def place(a, b, c, d, u1, v1, w, h, f, bad=None):
    """The call with numbers as they are meant, and no bad places unless told."""
    if bad is None:
        bad = [0] * len(f)
    return sm_place(word(a), word(b), word(c), word(d), u1, v1, w, h, f, bad)


def between_by_fractions(x, y, rows, bad_rows):
    """The number and the cover at (x, y), straight by the words: by how near each place's middle is."""
    total = Fraction(0)
    cover = 0
    for r, row in enumerate(rows):
        for c, number in enumerate(row):
            across = 64 - abs(x - (64 * c + 32))
            along = 64 - abs(y - (64 * r + 32))
            if across > 0 and along > 0 and bad_rows[r][c] == 0:
                total += number * across * along
                cover += across * along
    if cover == 0:
        return 0, 0
    return floor(total / cover + Fraction(1, 2)), cover


def place_by_fractions(a, b, c, d, u1, v1, w, h, f, bad):
    rows = [f[w * r:w * r + w] for r in range(h)]
    bad_rows = [bad[w * r:w * r + w] for r in range(h)]
    found = []
    for r in range(v1):
        for k in range(u1):
            x, y = 64 * k + 32, 64 * r + 32
            old_x = floor(Fraction(a * x - b * y, ONE)) + c
            old_y = floor(Fraction(b * x + a * y, ONE)) + d
            found.append(between_by_fractions(old_x, old_y, rows, bad_rows))
    return told([number for number, cover in found], [cover for number, cover in found])


class Ordinary(unittest.TestCase):
    def test_a_turn_by_a_quarter(self):
        # (x, y) goes to (192 - y, x): the new rows are the old columns, the last one first.
        got = place(0, ONE, 192, 0, 2, 3, 3, 2, [1, 2, 3, 4, 5, 6])
        self.assertEqual(got, told([3, 6, 2, 5, 1, 4], [4096] * 6))

    def test_a_turn_by_a_quarter_the_other_way(self):
        # (x, y) goes to (y, 128 - x).
        got = place(0, -ONE, 0, 128, 2, 3, 3, 2, [1, 2, 3, 4, 5, 6])
        self.assertEqual(got, told([4, 1, 5, 2, 6, 3], [4096] * 6))

    def test_a_turn_by_a_half(self):
        got = place(-ONE, 0, 192, 128, 3, 2, 3, 2, [1, 2, 3, 4, 5, 6])
        self.assertEqual(got, told([6, 5, 4, 3, 2, 1], [4096] * 6))

    def test_a_move_by_whole_places(self):
        got = place(ONE, 0, 64, 0, 3, 2, 3, 2, [1, 2, 3, 4, 5, 6])
        self.assertEqual(got, told([2, 3, 0, 5, 6, 0], [4096, 4096, 0, 4096, 4096, 0]))
        got = place(ONE, 0, 0, 64, 3, 2, 3, 2, [1, 2, 3, 4, 5, 6])
        self.assertEqual(got, told([4, 5, 6, 0, 0, 0], [4096] * 3 + [0] * 3))

    def test_a_move_between_places(self):
        self.assertEqual(place(ONE, 0, 32, 0, 2, 1, 2, 1, [10, 20]), told([15, 20], [4096, 2048]))
        self.assertEqual(place(ONE, 0, 0, 16, 1, 2, 1, 2, [100, 200]), told([125, 200], [4096, 3072]))

    def test_the_four_parts(self):
        # p is 16 and q is 8: the parts are 48*56, 16*56, 48*8, 16*8.
        for index, part in enumerate([2688, 896, 384, 128]):
            f = [0] * 4
            f[index] = 4096
            self.assertEqual(place(ONE, 0, 16, 8, 1, 1, 2, 2, f), told([part], [4096]))

    def test_twice_as_large(self):
        # The new middles 32, 96, 160, 224 are carried to 16, 48, 80, 112.
        got = place(ONE // 2, 0, 0, 0, 4, 1, 2, 1, [0, 64])
        self.assertEqual(got[:6], [0, 4, 0, 16, 48, 64])
        # Down, 32 is carried to 16: 48 of the 64 parts are on the one row.
        self.assertEqual(got[6:], [4, 2304, 3072, 3072, 2304])

    def test_half_as_large(self):
        f = [10, 20, 30, 40, 50, 60, 70, 80]
        self.assertEqual(place(2 * ONE, 0, 0, -32, 2, 1, 4, 2, f), told([15, 35], [4096, 4096]))

    def test_against_fractions(self):
        turns = [(ONE, 0), (0, -ONE), (11585, 11585), (16000, -3527), (-9000, 20001), (1, -1), (0, 0), (65536, -65536)]
        moves = [(0, 0), (-17, 45), (131, -70), (-8192, 8192)]
        sizes = [(3, 4, 5, 3), (6, 2, 1, 7), (1, 1, 2, 2)]
        for a, b in turns:
            for c, d in moves:
                for u1, v1, w, h in sizes:
                    f = pattern(w * h)
                    bad = spots(w * h)
                    with self.subTest(a=a, b=b, c=c, d=d, u1=u1, v1=v1, w=w, h=h):
                        got = place(a, b, c, d, u1, v1, w, h, f, bad)
                        self.assertEqual(got, place_by_fractions(a, b, c, d, u1, v1, w, h, f, bad))

    def test_the_form_of_the_answer(self):
        got = place(15000, 6000, -40, 30, 5, 3, 4, 4, pattern(16), spots(16))
        self.assertEqual(len(got), 1 + 2 * (1 + 15))
        self.assertEqual([got[0], got[1], got[17]], [0, 15, 15])
        assert_plain_answer(self, got)


class Edges(unittest.TestCase):
    def test_not_moved_a_picture_stays_as_it_is(self):
        for w, h in [(1, 1), (1, 64), (64, 1), (64, 64), (5, 3)]:
            f = pattern(w * h)
            self.assertEqual(place(ONE, 0, 0, 0, w, h, w, h, f), told(f, [4096] * (w * h)))

    def test_new_pictures_of_1_and_of_64(self):
        for u1, v1 in [(1, 1), (1, 64), (64, 1), (64, 64)]:
            got = place(ONE, 0, 0, 0, u1, v1, 2, 2, [5, 6, 7, 8])
            inside = {(0, 0): 5, (1, 0): 6, (0, 1): 7, (1, 1): 8}
            spots_in_order = [(c, r) for r in range(v1) for c in range(u1)]
            numbers = [inside.get(spot, 0) for spot in spots_in_order]
            covers = [4096 if spot in inside else 0 for spot in spots_in_order]
            self.assertEqual(got, told(numbers, covers))

    def test_the_largest_pictures_against_fractions(self):
        f, bad = pattern(4096), spots(4096)
        got = place(-250, 300, 1500, 1800, 64, 64, 64, 64, f, bad)
        rows = [f[64 * r:64 * r + 64] for r in range(64)]
        bad_rows = [bad[64 * r:64 * r + 64] for r in range(64)]
        for k, r in [(0, 0), (63, 0), (0, 63), (63, 63), (17, 40)]:
            x, y = 64 * k + 32, 64 * r + 32
            old_x = floor(Fraction(-250 * x - 300 * y, ONE)) + 1500
            old_y = floor(Fraction(300 * x - 250 * y, ONE)) + 1800
            number, cover = between_by_fractions(old_x, old_y, rows, bad_rows)
            self.assertGreater(cover, 0)
            self.assertEqual(got[2 + 64 * r + k], number)
            self.assertEqual(got[2 + 4096 + 1 + 64 * r + k], cover)

    def test_what_is_between_is_no_more_than_the_greatest(self):
        f = [65535] * 9
        for c, d in [(0, 0), (1, 63), (31, 33), (-20, -50), (50, 20)]:
            got = place(ONE, 0, c, d, 3, 3, 3, 3, f)
            for number, cover in zip(got[2:11], got[12:]):
                self.assertEqual(number, 65535 if cover > 0 else 0)

    def test_carried_outside(self):
        for c, d in [(64, 0), (-64, 0), (0, 64), (0, -64), (8192, 8192), (-8192, -8192), (64, 64), (-64, -64)]:
            self.assertEqual(place(ONE, 0, c, d, 1, 1, 1, 1, [9]), told([0], [0]))

    def test_at_the_rim_fewer_places_count(self):
        # One 64th away from being outside: a part is left, and the number is whole.
        self.assertEqual(place(ONE, 0, 63, 0, 1, 1, 1, 1, [9]), told([9], [64]))
        self.assertEqual(place(ONE, 0, -63, 0, 1, 1, 1, 1, [9]), told([9], [64]))
        self.assertEqual(place(ONE, 0, 0, 63, 1, 1, 1, 1, [9]), told([9], [64]))
        self.assertEqual(place(ONE, 0, 0, -63, 1, 1, 1, 1, [9]), told([9], [64]))
        self.assertEqual(place(ONE, 0, -63, 63, 1, 1, 1, 1, [9]), told([9], [1]))
        self.assertEqual(place(ONE, 0, -1, 0, 1, 1, 1, 1, [9]), told([9], [4032]))

    def test_a_rim_is_not_the_next_row(self):
        # Right of the first row nothing is, though the next number in the list is the second row's.
        self.assertEqual(place(ONE, 0, 96, 0, 1, 1, 2, 2, [1, 2, 300, 400]), told([2], [2048]))
        self.assertEqual(place(ONE, 0, -32, 64, 1, 1, 2, 2, [1, 200, 30, 40]), told([30], [2048]))

    def test_bad_places_do_not_count(self):
        f = [100, 200, 300, 400]
        for value in (1, 2, 128, 255):
            self.assertEqual(place(ONE, 0, 32, 32, 1, 1, 2, 2, f, [0, 0, 0, value]), told([200], [3072]))
            self.assertEqual(place(ONE, 0, 32, 32, 1, 1, 2, 2, f, [value, 0, 0, 0]), told([300], [3072]))
            self.assertEqual(place(ONE, 0, 32, 32, 1, 1, 2, 2, f, [value, 0, value, 0]), told([300], [2048]))
        got = place(ONE, 0, 0, 0, 2, 2, 2, 2, f, [0, 1, 0, 0])
        self.assertEqual(got, told([100, 0, 300, 400], [4096, 0, 4096, 4096]))

    def test_all_places_bad(self):
        got = place(ONE, 0, 10, 20, 2, 2, 2, 2, [100, 200, 300, 400], [1, 255, 7, 64])
        self.assertEqual(got, told([0] * 4, [0] * 4))

    def test_numbers_of_0_are_covered_all_the_same(self):
        self.assertEqual(place(ONE, 0, 0, 0, 2, 1, 2, 1, [0, 0]), told([0, 0], [4096, 4096]))

    def test_quotients_below_0_are_rounded_down(self):
        # -32 by 16384 is -1, so that 33 more is 32, the first middle; likewise from b.
        f = [0, 4096, 0, 4096]
        self.assertEqual(place(-1, 0, 33, 33, 1, 1, 2, 2, f), told([0], [4096]))
        self.assertEqual(place(0, 1, 33, 32, 1, 1, 2, 2, f), told([0], [4096]))
        g = [0, 0, 4096, 4096]
        self.assertEqual(place(0, -1, 32, 33, 1, 1, 2, 2, g), told([0], [4096]))
        self.assertEqual(place(-1, 0, 33, 33, 1, 1, 2, 2, g), told([0], [4096]))

    def test_quotients_above_0_are_rounded_down(self):
        # 16385 * 96 by 16384 is 96 and a bit; 32767 * 32 by 16384 is a bit less than 64.
        self.assertEqual(place(ONE + 1, 0, 0, 0, 2, 1, 2, 1, [0, 4096]), told([0, 4096], [4096, 4096]))
        self.assertEqual(place(2 * ONE - 1, 0, 0, -31, 1, 1, 2, 1, [0, 64]), told([31], [4096]))

    def test_places_before_the_first_are_rounded_down(self):
        # At (31, 32) i is -1 and p is 63.
        self.assertEqual(place(ONE, 0, -1, 0, 1, 1, 2, 1, [64, 0]), told([64], [4032]))
        self.assertEqual(place(ONE, 0, 0, -1, 1, 1, 1, 2, [64, 0]), told([64], [4032]))

    def test_just_between_two_whole_numbers_is_the_greater(self):
        self.assertEqual(place(ONE, 0, 32, 0, 1, 1, 2, 1, [0, 1])[2], 1)
        self.assertEqual(place(ONE, 0, 32, 0, 1, 1, 2, 1, [1, 2])[2], 2)
        self.assertEqual(place(ONE, 0, 32, 0, 1, 1, 2, 1, [2, 1])[2], 2)
        self.assertEqual(place(ONE, 0, 32, 0, 1, 1, 2, 1, [65535, 65534])[2], 65535)
        self.assertEqual(place(ONE, 0, 31, 0, 1, 1, 2, 1, [0, 1])[2], 0)
        self.assertEqual(place(ONE, 0, 33, 0, 1, 1, 2, 1, [0, 1])[2], 1)
        # With one half bad the cover is 2048, and the two left are as near.
        self.assertEqual(place(ONE, 0, 32, 32, 1, 1, 2, 2, [9, 2, 9, 3], [1, 0, 1, 0]), told([3], [2048]))

    def test_numbers_below_0_are_taken_modulo_2_32(self):
        f, bad = pattern(12), [0] * 12
        got = sm_place(4294950912, 4294967295, 4294967295 - 6, 4294967200, 4, 3, 4, 3, f, bad)
        self.assertEqual(got, place_by_fractions(-16384, -1, -7, -96, 4, 3, 4, 3, f, bad))
        got = sm_place(4294950912, 0, 256, 192, 4, 3, 4, 3, f, bad)
        self.assertEqual(got, told(f[::-1], [4096] * 12))


class WrongInputs(unittest.TestCase):
    BASE = {"a": ONE, "b": 0, "c": 0, "d": 0, "u1": 3, "v1": 2, "w": 4, "h": 2}
    RANGES = {
        "a": (-65536, 65536), "b": (-65536, 65536), "c": (-8192, 8192), "d": (-8192, 8192),
        "u1": (1, 64), "v1": (1, 64), "w": (1, 64), "h": (1, 64),
    }

    @staticmethod
    def lists_of(numbers):
        return {"f": pattern(places_of(numbers)), "bad": spots(places_of(numbers))}

    def test_each_range(self):
        assert_ranges(self, sm_place, self.BASE, self.RANGES, self.lists_of)

    def test_pictures_without_places(self):
        for name in ("u1", "v1", "w", "h"):
            numbers = dict(self.BASE, **{name: 0})
            self.assertEqual(sm_place(**numbers, **self.lists_of(numbers)), [-2])

    def test_the_greatest_words(self):
        for name in ("u1", "v1", "w", "h"):
            numbers = dict(self.BASE, **{name: 4294967295})
            self.assertEqual(sm_place(**numbers, f=[], bad=[]), [-2])

    def test_wide_and_low_with_lists(self):
        for w, h in [(65, 1), (1, 65), (65, 64), (64, 65), (5000, 1), (1, 5000)]:
            count = w * h
            self.assertEqual(sm_place(ONE, 0, 0, 0, 1, 1, w, h, pattern(count), spots(count)), [-2])

    def test_all_wrong_at_once(self):
        self.assertEqual(sm_place(65537, 65537, 8193, 8193, 0, 0, 0, 0, [], []), [-2])


class StandsAlone(unittest.TestCase):
    def test_nothing_is_changed_or_kept(self):
        lists = [pattern(20), spots(20)]
        kept = assert_same_twice(self, sm_place, [word(12000), word(-9000), 33, word(-5), 6, 6, 5, 4], lists)
        sm_place(0, ONE, 9, 9, 64, 64, 1, 1, [65535], [0])
        sm_place(65537, 0, 0, 0, 1, 1, 1, 1, [1], [0])
        again = assert_same_twice(self, sm_place, [word(12000), word(-9000), 33, word(-5), 6, 6, 5, 4], lists)
        self.assertEqual(again, kept)

    def test_a_refusal_is_the_same_twice(self):
        kept = assert_same_twice(self, sm_place, [65537, 0, 0, 0, 1, 1, 2, 1], [[1, 2], [0, 1]])
        self.assertEqual(kept, [-2])


if __name__ == "__main__":
    unittest.main()
