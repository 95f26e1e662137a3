"""Promise 4: sm_level."""

import unittest
from fractions import Fraction
from math import floor

from picturestack.pictures import sm_level
from tests.support import assert_plain_answer, assert_ranges, assert_same_twice, pattern, word

GREATEST_GAIN = 2 ** 24


def level(g, o, l):
    """The call with numbers as they are meant."""
    return sm_level(g, word(o), l)


def level_by_fractions(g, o, l):
    answer = [0]
    for number in l:
        moved = floor(number * Fraction(g, 4096) + Fraction(1, 2)) + o
        answer.append(sorted([0, moved, 65535])[1])
    return answer


class Ordinary(unittest.TestCase):
    def test_times_g_and_o_more(self):
        self.assertEqual(level(8192, 5, [1, 10, 100]), [0, 7, 25, 205])
        self.assertEqual(level(2048, 0, [2, 10, 100]), [0, 1, 5, 50])
        self.assertEqual(level(2048, -10, [100, 40]), [0, 40, 10])
        self.assertEqual(level(6144, 1000, [0, 2, 400]), [0, 1000, 1003, 1600])

    def test_the_nearest(self):
        # A quarter: 1 is 0.25, 3 is 0.75, 5 is 1.25, 7 is 1.75.
        self.assertEqual(level(1024, 0, [1, 3, 4, 5, 7]), [0, 0, 1, 1, 1, 2])

    def test_the_order_is_kept(self):
        self.assertEqual(level(4096, 1, [9, 3, 7, 3]), [0, 10, 4, 8, 4])

    def test_against_fractions(self):
        numbers = pattern(200) + [0, 1, 2, 3, 32767, 32768, 65534, 65535]
        for g in (0, 1, 2, 1023, 2048, 4095, 4096, 4097, 6144, 40503, 1000003, GREATEST_GAIN - 1, GREATEST_GAIN):
            for o in (-65536, -65535, -4000, -1, 0, 1, 4000, 65535, 65536):
                with self.subTest(g=g, o=o):
                    self.assertEqual(level(g, o, numbers), level_by_fractions(g, o, numbers))

    def test_the_form_of_the_answer(self):
        got = level(5000, -30, pattern(30))
        self.assertEqual(len(got), 31)
        self.assertEqual(got[0], 0)
        assert_plain_answer(self, got)


class Edges(unittest.TestCase):
    def test_the_numbers_stay_as_they_are(self):
        for count in (1, 2, 63, 4096):
            f = pattern(count)
            self.assertEqual(level(4096, 0, f), [0] + f)
        self.assertEqual(level(4096, 0, [0, 1, 65534, 65535]), [0, 0, 1, 65534, 65535])

    def test_g_0(self):
        self.assertEqual(level(0, 0, [0, 1, 65535]), [0, 0, 0, 0])
        self.assertEqual(level(0, 77, [0, 1, 65535]), [0, 77, 77, 77])
        self.assertEqual(level(0, -1, [0, 1, 65535]), [0, 0, 0, 0])

    def test_g_1(self):
        self.assertEqual(level(1, 0, [2047, 2048, 6143, 6144, 65535]), [0, 0, 1, 1, 2, 16])

    def test_just_between_two_whole_numbers_is_the_greater(self):
        self.assertEqual(level(2048, 0, [1, 3, 5, 65535]), [0, 1, 2, 3, 32768])
        self.assertEqual(level(6144, 0, [1, 3, 5]), [0, 2, 5, 8])
        self.assertEqual(level(1, 0, [2048]), [0, 1])

    def test_it_is_rounded_ahead_of_o(self):
        # 0.5 is 1, and 1 less is 0; 1.5 is 2, and 2 less is 0; 2.5 is 3, and 1 is left.
        self.assertEqual(level(2048, -1, [1]), [0, 0])
        self.assertEqual(level(2048, -2, [3, 5]), [0, 0, 1])

    def test_o_below_0(self):
        self.assertEqual(level(4096, -10, [8, 9, 10, 11, 12]), [0, 0, 0, 0, 1, 2])
        self.assertEqual(sm_level(4096, 4294967295, [0, 1, 2]), [0, 0, 0, 1])
        self.assertEqual(level(4096, -65535, [65534, 65535]), [0, 0, 0])
        self.assertEqual(level(4096, -65536, [0, 65535]), [0, 0, 0])

    def test_about_the_greatest(self):
        self.assertEqual(level(4096, 10, [65524, 65525, 65526, 65535]), [0, 65534, 65535, 65535, 65535])
        self.assertEqual(level(8192, 0, [32767, 32768, 65535]), [0, 65534, 65535, 65535])
        self.assertEqual(level(4096, 65535, [0, 1]), [0, 65535, 65535])
        self.assertEqual(level(4096, 65534, [0, 1, 2]), [0, 65534, 65535, 65535])
        self.assertEqual(level(4096, 65536, [0, 65535]), [0, 65535, 65535])

    def test_o_takes_back_what_is_above(self):
        # It is held at the ends at the last, not ahead of o.
        self.assertEqual(level(8192, -65536, [32768, 32769, 65535]), [0, 0, 2, 65534])
        self.assertEqual(level(8192, -65535, [65534, 65535]), [0, 65533, 65535])

    def test_the_greatest_g(self):
        self.assertEqual(level(GREATEST_GAIN, 0, [65535]), [0, 65535])
        self.assertEqual(level(GREATEST_GAIN, 0, [0, 1, 15, 16]), [0, 0, 4096, 61440, 65535])
        self.assertEqual(level(GREATEST_GAIN, -65536, [65535, 16, 17, 31, 32]), [0, 65535, 0, 4096, 61440, 65535])
        self.assertEqual(level(GREATEST_GAIN, 65536, [0, 65535]), [0, 65535, 65535])

    def test_no_numbers(self):
        self.assertEqual(level(4096, 0, []), [0])
        for g in (0, GREATEST_GAIN):
            for o in (-65536, 65536):
                self.assertEqual(level(g, o, []), [0])

    def test_as_many_as_may_be(self):
        for count in (4095, 4096):
            f = pattern(count)
            self.assertEqual(level(5001, -300, f), level_by_fractions(5001, -300, f))


class WrongInputs(unittest.TestCase):
    BASE = {"g": 4096, "o": 0}
    RANGES = {"g": (0, GREATEST_GAIN), "o": (-65536, 65536)}

    def test_each_range(self):
        for count in (0, 1, 7, 4096):
            assert_ranges(self, sm_level, self.BASE, self.RANGES, lambda numbers: {"l": pattern(count)})

    def test_g(self):
        for numbers in ([], [0], [65535, 1]):
            self.assertEqual(level(GREATEST_GAIN, 0, numbers)[0], 0)
            self.assertEqual(level(GREATEST_GAIN + 1, 0, numbers), [-2])
            self.assertEqual(level(2 ** 31, 0, numbers), [-2])
            self.assertEqual(level(4294967295, 0, numbers), [-2])

    def test_o(self):
        for numbers in ([], [0], [65535, 1]):
            for o in (65536, 4294967296 - 65536):
                self.assertEqual(sm_level(4096, o, numbers)[0], 0)
            for o in (65537, 4294967296 - 65537, 2147483647, 2147483648):
                self.assertEqual(sm_level(4096, o, numbers), [-2])

    def test_more_than_4096(self):
        for count in (4097, 4098, 5000):
            self.assertEqual(level(4096, 0, pattern(count)), [-2])
            self.assertEqual(level(0, 0, [0] * count), [-2])

    def test_all_wrong_at_once(self):
        self.assertEqual(level(GREATEST_GAIN + 1, 65537, pattern(4097)), [-2])
        self.assertEqual(level(GREATEST_GAIN + 1, -65537, []), [-2])


class StandsAlone(unittest.TestCase):
    def test_nothing_is_changed_or_kept(self):
        kept = assert_same_twice(self, sm_level, [5000, word(-100)], [pattern(40)])
        sm_level(1, 1, pattern(40))
        sm_level(4096, 65537, [1])
        self.assertEqual(assert_same_twice(self, sm_level, [5000, word(-100)], [pattern(40)]), kept)

    def test_numbers_that_stay_are_a_list_of_their_own(self):
        assert_same_twice(self, sm_level, [4096, 0], [pattern(20)])

    def test_no_numbers_twice(self):
        self.assertEqual(assert_same_twice(self, sm_level, [4096, 0], [[]]), [0])

    def test_a_refusal_is_the_same_twice(self):
        self.assertEqual(assert_same_twice(self, sm_level, [4096, 0], [pattern(4097)]), [-2])
        self.assertEqual(assert_same_twice(self, sm_level, [4096, 65537], [pattern(9)]), [-2])


if __name__ == "__main__":
    unittest.main()
