import PyProof.Rows.All
import Wide.All
import OpenK.AllK
import Wide.FinOn
import Open.SpecLaws
import KE.OsGo
import HandS.ForSpec
import HandS.ForMost
import HandS.Walk
import HandS.Wide
import HandS.SortInts
import PySem.Challenge.RW_picturestack_s06_sm_finish
set_option Elab.async false
set_option linter.all false
set_option maxRecDepth 100000
set_option maxHeartbeats 4000000
/-! ### plain mathematics: words with a sign, ranges, lists row by row -/
namespace Ps
/-- a word with its sign -/
def sg (x : Int) : Int := if 2147483648 ≤ x then x - 4294967296 else x
theorem sg_int32 {x : Int} (h0 : 0 ≤ x) : Sh69Neutral.int32 x.toNat = sg x := by
  unfold Sh69Neutral.int32 sg
  by_cases h : 2147483648 ≤ x
  · rw [if_pos h, if_neg (by omega)]
    omega
  · rw [if_neg h, if_pos (by omega)]
    omega
def inR (lo hi n : Int) : Bool := decide (lo ≤ n) && decide (n ≤ hi)
theorem inR_iff {lo hi n : Int} : inR lo hi n = true ↔ lo ≤ n ∧ n ≤ hi := by
  unfold inR
  rw [Bool.and_eq_true, decide_eq_true_iff, decide_eq_true_iff]
/-- column and row stand in a picture -/
def inPic (c r w h : Int) : Bool := decide (0 ≤ c) && (decide (c < w) && (decide (0 ≤ r) && decide (r < h)))
theorem inPic_iff {c r w h : Int} : inPic c r w h = true ↔ 0 ≤ c ∧ c < w ∧ 0 ≤ r ∧ r < h := by
  unfold inPic
  simp only [Bool.and_eq_true, decide_eq_true_iff]
theorem fm_congr {α β : Type} {f g : α → List β} : ∀ {l : List α}, (∀ a ∈ l, f a = g a) → l.flatMap f = l.flatMap g
  | [], _ => rfl
  | a :: l, h => by
    rw [List.flatMap_cons, List.flatMap_cons, h a (List.mem_cons_self ..), fm_congr fun b hb => h b (List.mem_cons_of_mem _ hb)]
/-- row by row, the first i rows -/
def rows {α : Type} (g : Nat → Nat → α) (w i : Nat) : List α := (List.range i).flatMap fun r => (List.range w).map fun c => g c r
theorem rows_succ {α : Type} (g : Nat → Nat → α) (w i : Nat) : rows g w (i + 1) = rows g w i ++ (List.range w).map fun c => g c i := by
  unfold rows
  rw [List.range_succ, List.flatMap_append]
  simp only [List.flatMap_cons, List.flatMap_nil, List.append_nil]
theorem rows_length {α : Type} (g : Nat → Nat → α) (w : Nat) : ∀ i, (rows g w i).length = i * w
  | 0 => by
    unfold rows
    simp
  | i + 1 => by
    rw [rows_succ, List.length_append, rows_length g w i, List.length_map, List.length_range, Nat.succ_mul]
theorem row_succ {α : Type} (g : Nat → Nat → α) (i j : Nat) : (List.range (j + 1)).map (fun c => g c i) = (List.range j).map (fun c => g c i) ++ [g j i] := by
  rw [List.range_succ, List.map_append]
  rfl
theorem rows_congr {α : Type} {g g' : Nat → Nat → α} {w h : Nat} (e : ∀ c r, c < w → r < h → g c r = g' c r) : rows g w h = rows g' w h := by
  unfold rows
  refine fm_congr fun r hr => ?_
  refine List.map_congr_left fun c hc => ?_
  exact e c r (List.mem_range.mp hc) (List.mem_range.mp hr)
theorem rows_map {α β : Type} (f : α → β) (g : Nat → Nat → α) (w h : Nat) : (rows g w h).map f = rows (fun c r => f (g c r)) w h := by
  unfold rows
  rw [List.map_flatMap]
  refine fm_congr fun r _ => ?_
  rw [List.map_map]
  rfl
theorem ints_each (w h : Nat) (f : Nat → Nat → Nat) : Sh69Neutral.ints (Sh69.each w h f) = rows (fun c r => (f c r : Int)) w h := by
  unfold Sh69Neutral.ints Sh69.each rows
  rw [List.map_flatMap]
  refine fm_congr fun r _ => ?_
  rw [List.map_map]
  rfl
/-- the place in a list of rows -/
theorem place_lt {w h c r : Int} (hc0 : 0 ≤ c) (hc : c < w) (hr0 : 0 ≤ r) (hr : r < h) : 0 ≤ r * w + c ∧ r * w + c < w * h := by
  have h1 : 0 ≤ r * w := Int.mul_nonneg hr0 (by omega)
  have h2 : (r + 1) * w ≤ h * w := Int.mul_le_mul_of_nonneg_right (by omega) (by omega)
  rw [Int.add_mul, Int.one_mul, Int.mul_comm h w] at h2
  omega
theorem nats_getD {ns : List Int} (h0 : ∀ n ∈ ns, 0 ≤ n) (i : Nat) : ((Sh69.num (Sh69Neutral.nats ns) i : Nat) : Int) = ns.getD i 0 := by
  unfold Sh69.num Sh69Neutral.nats
  rw [List.getD_eq_getElem?_getD, List.getD_eq_getElem?_getD, List.getElem?_map]
  cases e : ns[i]? with
  | none => rfl
  | some z =>
    have hz : 0 ≤ z := h0 z (List.mem_of_getElem? e)
    show ((z.toNat : Nat) : Int) = z
    omega
theorem nats_length (ns : List Int) : (Sh69Neutral.nats ns).length = ns.length := List.length_map _
theorem list_at {ns : List Int} {i : Nat} (h : i < ns.length) : ns[i]? = some (ns.getD i 0) := by
  rw [List.getD_eq_getElem?_getD, List.getElem?_eq_getElem h]
  rfl
end Ps
/-! ### the later calls of the specification over whole numbers -/
namespace Ps
theorem few_iff {n : Nat} : Sh69.few n = true ↔ n ≤ 4096 := by
  unfold Sh69.few
  rw [decide_eq_true_iff]
theorem among_iff {n : Int} {lo hi : Nat} (h0 : 0 ≤ n) : Sh69.among n.toNat lo hi = true ↔ (lo : Int) ≤ n ∧ n ≤ (hi : Int) := by
  unfold Sh69.among
  simp only [Bool.and_eq_true, decide_eq_true_iff]
  omega
theorem amongN_iff {n lo hi : Nat} : Sh69.among n lo hi = true ↔ lo ≤ n ∧ n ≤ hi := by
  unfold Sh69.among
  simp only [Bool.and_eq_true, decide_eq_true_iff]
theorem nats_cast {ns : List Int} (h0 : ∀ n ∈ ns, 0 ≤ n) : (Sh69Neutral.nats ns).map (fun (x : Nat) => (x : Int)) = ns := by
  unfold Sh69Neutral.nats
  rw [List.map_map]
  refine (List.map_congr_left fun a ha => ?_).trans (List.map_id ns)
  show ((a.toNat : Nat) : Int) = a
  have := h0 a ha
  omega
theorem sum_cast : ∀ l : List Nat, ((l.sum : Nat) : Int) = (l.map (fun (x : Nat) => (x : Int))).sum
  | [] => rfl
  | a :: l => by
    rw [List.sum_cons, List.map_cons, List.sum_cons, Int.natCast_add, sum_cast l]
theorem nats_sum {ns : List Int} (h0 : ∀ n ∈ ns, 0 ≤ n) : (((Sh69Neutral.nats ns).sum : Nat) : Int) = ns.sum := by
  rw [sum_cast, nats_cast h0]
/-! finish -/
def near (a b : Int) : Int := (2 * a + b) / (2 * b)
def finG (s m : Int) : Int := if m = 0 then 0 else near s m % 4294967296
def finAns (sums much : List Int) : List Int := if sums.length ≤ 4096 then 0 :: (sums.zip much).map (fun p => finG p.1 p.2) else [-2]
theorem near_cast' (a b : Nat) : ((Sh69.nearN a b : Nat) : Int) = near a b := by
  unfold Sh69.nearN near
  rw [Int.natCast_ediv, Int.natCast_add, Int.natCast_mul, Int.natCast_mul]
  rfl
theorem fin_is {sums much : List Int} (h1 : ∀ n ∈ sums, 0 ≤ n) (h2 : ∀ n ∈ much, 0 ≤ n) : PySh69.sm_finish sums much = finAns sums much := by
  show Sh69Neutral.told (Sh69.answer (if Sh69.few (Sh69Neutral.nats sums).length = true then Sh69.Call.finish (Sh69Neutral.nats sums) (Sh69Neutral.nats much) else Sh69.Call.bad)) = _
  unfold finAns
  by_cases k : sums.length ≤ 4096
  · rw [if_pos k, if_pos (few_iff.mpr (by rw [nats_length]; exact k))]
    show 0 :: Sh69Neutral.ints ((Sh69.finished (Sh69Neutral.nats sums) (Sh69Neutral.nats much)).map fun a => a % 4294967296) = _
    refine congrArg _ ?_
    unfold Sh69Neutral.ints Sh69.finished Sh69Neutral.nats
    rw [List.zip_map, List.map_map, List.map_map, List.map_map]
    refine List.map_congr_left fun p hp => ?_
    have m1 := h1 p.1 (List.of_mem_zip hp).1
    have m2 := h2 p.2 (List.of_mem_zip hp).2
    show (((if p.2.toNat = 0 then 0 else Sh69.nearN p.1.toNat p.2.toNat) % 4294967296 : Nat) : Int) = finG p.1 p.2
    unfold finG
    by_cases z : p.2 = 0
    · rw [if_pos z, if_pos (by omega)]
      rfl
    · rw [if_neg z, if_neg (by omega), Int.natCast_emod, near_cast', Int.toNat_of_nonneg m1, Int.toNat_of_nonneg m2]
      rfl
  · rw [if_neg k, if_neg (fun z => k (by rw [few_iff, nats_length] at z; exact z))]
    rfl
theorem two_len {a b : List Int} {c : Bool} (q : (if c = true then a.length == (Sh69Neutral.nats a).length && b.length == (Sh69Neutral.nats a).length else (a.isEmpty && b.isEmpty) || (a.length == (Sh69Neutral.nats a).length && b.length == (Sh69Neutral.nats a).length)) = true) : b.length = a.length := by
  rw [nats_length] at q
  cases c with
  | true =>
    rw [if_pos rfl, Bool.and_eq_true] at q
    exact beq_iff_eq.mp q.2
  | false =>
    rw [if_neg Bool.false_ne_true, Bool.or_eq_true, Bool.and_eq_true, Bool.and_eq_true] at q
    rcases q with q | q
    · rw [List.isEmpty_iff.mp q.1, List.isEmpty_iff.mp q.2]
    · exact beq_iff_eq.mp q.2
theorem fin_len {sums much : List Int} (ha : PySh69.sm_finish_asked sums much = true) : much.length = sums.length := by
  have q : (Sh69Neutral.asked1 [[5], sums, much] && decide ((Sh69Neutral.f [[5], sums, much]).length < 1000000)) = true := ha
  rw [Bool.and_eq_true] at q
  have q1 : (sums.all (fun (z : Int) => Sh69Neutral.natural z 64) && (much.all (fun (z : Int) => Sh69Neutral.natural z 32) && (if (Sh69.few (Sh69Neutral.nats sums).length) = true then sums.length == (Sh69Neutral.nats sums).length && much.length == (Sh69Neutral.nats sums).length else (sums.isEmpty && much.isEmpty) || (sums.length == (Sh69Neutral.nats sums).length && much.length == (Sh69Neutral.nats sums).length)))) = true := q.1
  rw [Bool.and_eq_true, Bool.and_eq_true] at q1
  exact two_len q1.2.2
/-! gain -/
def gainG (a b : List Int) : Int := if b.sum = 0 then 0 else near (4096 * a.sum) b.sum % 4294967296
def gainAns (a b : List Int) : List Int := if a.length ≤ 4096 then [0, gainG a b] else [-2]
theorem gain_is {a b : List Int} (h1 : ∀ n ∈ a, 0 ≤ n) (h2 : ∀ n ∈ b, 0 ≤ n) : PySh69.sm_gain a b = gainAns a b := by
  show Sh69Neutral.told (Sh69.answer (if Sh69.few (Sh69Neutral.nats a).length = true then Sh69.Call.gain (Sh69Neutral.nats a) (Sh69Neutral.nats b) else Sh69.Call.bad)) = _
  unfold gainAns
  by_cases k : a.length ≤ 4096
  · rw [if_pos k, if_pos (few_iff.mpr (by rw [nats_length]; exact k))]
    show [0, ((Sh69.gain (Sh69Neutral.nats a) (Sh69Neutral.nats b) % 4294967296 : Nat) : Int)] = [0, gainG a b]
    have e1 := nats_sum h1
    have e2 := nats_sum h2
    unfold Sh69.gain gainG
    by_cases z : b.sum = 0
    · rw [if_pos z, if_pos (by omega)]
      rfl
    · rw [if_neg z, if_neg (by omega), Int.natCast_emod, near_cast', Int.natCast_mul, e1, e2]
      rfl
  · rw [if_neg k, if_neg (fun z => k (by rw [few_iff, nats_length] at z; exact z))]
    rfl
theorem gain_len {a b : List Int} (ha : PySh69.sm_gain_asked a b = true) : b.length = a.length := by
  have q : (Sh69Neutral.asked1 [[7], a, b] && decide ((Sh69Neutral.f [[7], a, b]).length < 1000000)) = true := ha
  rw [Bool.and_eq_true] at q
  have q1 : (a.all (fun (z : Int) => Sh69Neutral.natural z 16) && (b.all (fun (z : Int) => Sh69Neutral.natural z 16) && (if (Sh69.few (Sh69Neutral.nats a).length) = true then a.length == (Sh69Neutral.nats a).length && b.length == (Sh69Neutral.nats a).length else (a.isEmpty && b.isEmpty) || (a.length == (Sh69Neutral.nats a).length && b.length == (Sh69Neutral.nats a).length)))) = true := q.1
  rw [Bool.and_eq_true, Bool.and_eq_true] at q1
  exact two_len q1.2.2
/-! less -/
def lessAns (a b : List Int) : List Int := if a.length ≤ 4096 then 0 :: (a.zip b).map (fun p => (p.1 - p.2) % 4294967296) else [-2]
theorem less_is {a b : List Int} (h1 : ∀ n ∈ a, 0 ≤ n) (h2 : ∀ n ∈ b, 0 ≤ n) : PySh69.sm_less a b = lessAns a b := by
  show Sh69Neutral.told (Sh69.answer (if Sh69.few (Sh69Neutral.nats a).length = true then Sh69.Call.less (Sh69Neutral.nats a) (Sh69Neutral.nats b) else Sh69.Call.bad)) = _
  unfold lessAns
  by_cases k : a.length ≤ 4096
  · rw [if_pos k, if_pos (few_iff.mpr (by rw [nats_length]; exact k))]
    show 0 :: Sh69Neutral.ints (((Sh69Neutral.nats a).zip (Sh69Neutral.nats b)).map fun p => Sh69.wordOf ((p.1 : Int) - (p.2 : Int))) = _
    refine congrArg _ ?_
    unfold Sh69Neutral.ints Sh69Neutral.nats
    rw [List.zip_map, List.map_map, List.map_map]
    refine List.map_congr_left fun p hp => ?_
    have m1 := h1 p.1 (List.of_mem_zip hp).1
    have m2 := h2 p.2 (List.of_mem_zip hp).2
    show ((Sh69.wordOf (((p.1.toNat : Nat) : Int) - ((p.2.toNat : Nat) : Int)) : Nat) : Int) = _
    unfold Sh69.wordOf
    rw [Int.toNat_of_nonneg m1, Int.toNat_of_nonneg m2]
    omega
  · rw [if_neg k, if_neg (fun z => k (by rw [few_iff, nats_length] at z; exact z))]
    rfl
theorem less_len {a b : List Int} (ha : PySh69.sm_less_asked a b = true) : b.length = a.length := by
  have q : (Sh69Neutral.asked1 [[8], a, b] && decide ((Sh69Neutral.f [[8], a, b]).length < 1000000)) = true := ha
  rw [Bool.and_eq_true] at q
  have q1 : (a.all (fun (z : Int) => Sh69Neutral.natural z 16) && (b.all (fun (z : Int) => Sh69Neutral.natural z 16) && (if (Sh69.few (Sh69Neutral.nats a).length) = true then a.length == (Sh69Neutral.nats a).length && b.length == (Sh69Neutral.nats a).length else (a.isEmpty && b.isEmpty) || (a.length == (Sh69Neutral.nats a).length && b.length == (Sh69Neutral.nats a).length)))) = true := q.1
  rw [Bool.and_eq_true, Bool.and_eq_true] at q1
  exact two_len q1.2.2
/-! level -/
def levelG (g o a : Int) : Int := max 0 (min 65535 (near (g * a) 4096 + o))
def levelOk (g o : Int) (l : List Int) : Bool := decide (l.length ≤ 4096) && (decide (g ≤ 16777216) && inR (-65536) 65536 (sg o))
def levelAns (g o : Int) (l : List Int) : List Int := if levelOk g o l = true then 0 :: l.map (levelG g (sg o)) else [-2]
theorem level_is {g o : Int} {l : List Int} (hg : 0 ≤ g) (ho : 0 ≤ o) (h1 : ∀ n ∈ l, 0 ≤ n) : PySh69.sm_level g o l = levelAns g o l := by
  show Sh69Neutral.told (Sh69.answer (if (Sh69.few (Sh69Neutral.nats l).length && (decide (g.toNat ≤ 16777216) && Sh69.within (Sh69Neutral.int32 o.toNat) (-65536) 65536)) = true then Sh69.Call.level g.toNat (Sh69Neutral.int32 o.toNat) (Sh69Neutral.nats l) else Sh69.Call.bad)) = _
  have e : (Sh69.few (Sh69Neutral.nats l).length && (decide (g.toNat ≤ 16777216) && Sh69.within (Sh69Neutral.int32 o.toNat) (-65536) 65536)) = levelOk g o l := by
    unfold levelOk Sh69.few inR Sh69.within
    rw [nats_length, sg_int32 ho, show decide (g.toNat ≤ 16777216) = decide (g ≤ 16777216) from decide_eq_decide.mpr (by omega)]
  rw [e]
  unfold levelAns
  by_cases k : levelOk g o l = true
  · rw [if_pos k, if_pos k]
    show 0 :: Sh69Neutral.ints ((Sh69Neutral.nats l).map (Sh69.levelled g.toNat (Sh69Neutral.int32 o.toNat))) = _
    refine congrArg _ ?_
    unfold Sh69Neutral.ints Sh69Neutral.nats
    rw [List.map_map, List.map_map]
    refine List.map_congr_left fun a ha => ?_
    have m1 := h1 a ha
    show ((Sh69.levelled g.toNat (Sh69Neutral.int32 o.toNat) a.toNat : Nat) : Int) = levelG g (sg o) a
    unfold Sh69.levelled levelG
    rw [near_cast', sg_int32 ho, Int.natCast_mul, Int.toNat_of_nonneg hg, Int.toNat_of_nonneg m1, Int.toNat_of_nonneg (Int.le_max_left ..)]
    rfl
  · rw [if_neg k, if_neg k]
    rfl
/-! ends -/
def colX (x : List Int) (n k i : Nat) : List Int := (List.range k).map fun j => x.getD (j * n + i) 0
def endsOk (n : Int) (x : List Int) : Bool := inR 1 4096 n && inR 1 16 ((x.length / n.toNat : Nat) : Int)
def lo (x : List Int) (n k i : Nat) : Int := (colX x n k i).foldl min 65535
def hi (x : List Int) (n k i : Nat) : Int := (colX x n k i).foldl max 0
def endsAns (n : Int) (x : List Int) : List Int := if endsOk n x = true then 0 :: (n :: (List.range n.toNat).map (lo x n.toNat (x.length / n.toNat)) ++ n :: (List.range n.toNat).map (hi x n.toNat (x.length / n.toNat))) else [-2]
theorem nums_cast {x : List Int} (h0 : ∀ a ∈ x, 0 ≤ a) (n k i : Nat) : ((List.range k).map fun j => Sh69.num (Sh69Neutral.nats x) (j * n + i)).map (fun (a : Nat) => (a : Int)) = colX x n k i := by
  unfold colX
  rw [List.map_map]
  exact List.map_congr_left fun j _ => nats_getD h0 _
theorem foldmin_cast : ∀ (l : List Nat) (a : Nat), ((l.foldl min a : Nat) : Int) = (l.map (fun (a : Nat) => (a : Int))).foldl min (a : Int)
  | [], a => rfl
  | b :: l, a => by
    rw [List.foldl_cons, List.map_cons, List.foldl_cons, foldmin_cast l]
    congr 1
    omega
theorem foldmax_cast : ∀ (l : List Nat) (a : Nat), ((l.foldl max a : Nat) : Int) = (l.map (fun (a : Nat) => (a : Int))).foldl max (a : Int)
  | [], a => rfl
  | b :: l, a => by
    rw [List.foldl_cons, List.map_cons, List.foldl_cons, foldmax_cast l]
    congr 1
    omega
theorem ends_is {n : Int} {x : List Int} (hn : 0 ≤ n) (h0 : ∀ a ∈ x, 0 ≤ a) : PySh69.sm_ends n x = endsAns n x := by
  show Sh69Neutral.told (Sh69.answer (if (Sh69.among n.toNat 1 4096 && Sh69.among ((Sh69Neutral.nats x).length / n.toNat) 1 16) = true then Sh69.Call.ends n.toNat (Sh69Neutral.nats x) else Sh69.Call.bad)) = _
  have e : (Sh69.among n.toNat 1 4096 && Sh69.among ((Sh69Neutral.nats x).length / n.toNat) 1 16) = endsOk n x := by
    rw [Bool.eq_iff_iff]
    unfold endsOk
    rw [Bool.and_eq_true, Bool.and_eq_true, among_iff hn, amongN_iff, inR_iff, inR_iff, nats_length]
    omega
  rw [e]
  unfold endsAns
  by_cases k : endsOk n x = true
  · rw [if_pos k, if_pos k]
    have e1 : Sh69Neutral.ints ((List.range n.toNat).map fun i => (Sh69.ends n.toNat (Sh69Neutral.nats x) i).1) = (List.range n.toNat).map (lo x n.toNat (x.length / n.toNat)) := by
      unfold Sh69Neutral.ints
      rw [List.map_map]
      refine List.map_congr_left fun i _ => ?_
      show ((((List.range ((Sh69Neutral.nats x).length / n.toNat)).map fun j => Sh69.num (Sh69Neutral.nats x) (j * n.toNat + i)).foldl min 65535 : Nat) : Int) = _
      rw [foldmin_cast, nums_cast h0, nats_length]
      rfl
    have e2 : Sh69Neutral.ints ((List.range n.toNat).map fun i => (Sh69.ends n.toNat (Sh69Neutral.nats x) i).2) = (List.range n.toNat).map (hi x n.toNat (x.length / n.toNat)) := by
      unfold Sh69Neutral.ints
      rw [List.map_map]
      refine List.map_congr_left fun i _ => ?_
      show ((((List.range ((Sh69Neutral.nats x).length / n.toNat)).map fun j => Sh69.num (Sh69Neutral.nats x) (j * n.toNat + i)).foldl max 0 : Nat) : Int) = _
      rw [foldmax_cast, nums_cast h0, nats_length]
      rfl
    show (0 : Int) :: ([(List.range n.toNat).map fun i => (Sh69.ends n.toNat (Sh69Neutral.nats x) i).1, (List.range n.toNat).map fun i => (Sh69.ends n.toNat (Sh69Neutral.nats x) i).2] : List (List Nat)).flatMap (fun (l : List Nat) => ((l.length : Nat) : Int) :: Sh69Neutral.ints l) = _
    simp only [List.flatMap_cons, List.flatMap_nil, List.append_nil]
    rw [e1, e2, List.length_map, List.length_map, List.length_range, Int.toNat_of_nonneg hn]
  · rw [if_neg k, if_neg k]
    rfl
theorem ends_len {n : Int} {x : List Int} (ha : PySh69.sm_ends_asked n x = true) : x.length = n.toNat * (x.length / n.toNat) := by
  have q : (Sh69Neutral.asked1 [[3, n], x] && decide ((Sh69Neutral.f [[3, n], x]).length < 1000000)) = true := ha
  rw [Bool.and_eq_true] at q
  have q1 : (Sh69Neutral.natural n 32 && (x.all (fun (z : Int) => Sh69Neutral.natural z 16) && (if (Sh69.among n.toNat 1 4096 && Sh69.among ((Sh69Neutral.nats x).length / n.toNat) 1 16) = true then x.length == (n.toNat * ((Sh69Neutral.nats x).length / n.toNat)) else x.isEmpty || (x.length == (n.toNat * ((Sh69Neutral.nats x).length / n.toNat)))))) = true := q.1
  rw [Bool.and_eq_true, Bool.and_eq_true, nats_length] at q1
  have z := q1.2.2
  split at z
  · exact beq_iff_eq.mp z
  · rw [Bool.or_eq_true] at z
    rcases z with z | z
    · rw [List.isEmpty_iff.mp z]
      simp
    · exact beq_iff_eq.mp z
end Ps
/-! ### the text by places -/
namespace Ps
open PySem L2
def topS (i : Nat) : Stmt := PySem.Challenge.pw_picturestack_s06_sm_finish.main.body.getD i (.Pass ⟨0, 0, 0, 0⟩)
abbrev sRounded : Stmt := topS 4
abbrev sLong : Stmt := topS 5
abbrev sFin : Stmt := topS 6
end Ps
/-! ### defs that several calls share -/
namespace Ps
open PySem PySem.Spec PyProof.Rows L2
theorem same_upd {H : Hp} {p : Addr} {o : HO} (h : H p = none) : Same H (upd H p o) := fun b x e => by
  rw [upd_ne (ne_of_none e h)]
  exact e
/-- a store to what was not tracked at the start -/
theorem same_put {H H1 : Hp} {p : Addr} {o : HO} (s : Same H H1) (h : H p = none) : Same H (upd H1 p o) := fun b x e => by
  rw [upd_ne (ne_of_none e h)]
  exact s _ _ e
theorem map_at {α β : Type} {f : α → β} {ns : List α} {i : Nat} {y : β} (hi : (ns.map f)[i]? = some y) : ∃ z, ns[i]? = some z ∧ y = f z := by
  rw [List.getElem?_map] at hi
  cases e : ns[i]? with
  | none =>
    rw [e] at hi
    cases hi
  | some z =>
    rw [e] at hi
    exact ⟨z, rfl, (Option.some.inj hi).symm⟩
theorem take_more {α : Type} {l : List α} {i : Nat} {x : α} (h : l[i]? = some x) : l.take (i + 1) = l.take i ++ [x] := by
  rw [List.take_add_one, h]
  rfl
/-- a name of the module that holds a whole number -/
theorem pe_gi {X : Cx} {x : Str} {pos : Pos} {i : Int} {t} (hg : Gl X x) (hm : X.mg x = some (.int i t)) (hd : (x == ("__debug__" : Str)) = false := by decide) : PE X (.Name x pos) (tC (.int i)) := pe_glob hg hm ⟨_, rfl⟩ hd
theorem line {n : Nat} (h : n ≤ 100000) : n < sizeLine := Nat.lt_of_le_of_lt h (by decide)
end Ps
/-! ### comprehensions, and lists of things that stand in the heap -/
namespace Ps
open PySem PySem.Spec PyProof.Rows L2
/-- one by one -/
def All2 {α β : Type} (R : α → β → Prop) : List α → List β → Prop
  | [], [] => True
  | v :: vs, x :: xs => R v x ∧ All2 R vs xs
  | [], _ :: _ => False
  | _ :: _, [] => False
section
variable {α β : Type} {R R' : α → β → Prop}
theorem All2.mono (k : ∀ v x, R v x → R' v x) : ∀ {vs : List α} {xs : List β}, All2 R vs xs → All2 R' vs xs
  | [], [], _ => trivial
  | _ :: _, _ :: _, h => ⟨k _ _ h.1, All2.mono k h.2⟩
  | [], _ :: _, h => False.elim h
  | _ :: _, [], h => False.elim h
theorem All2.len : ∀ {vs : List α} {xs : List β}, All2 R vs xs → vs.length = xs.length
  | [], [], _ => rfl
  | _ :: _, _ :: _, h => by
    rw [List.length_cons, List.length_cons, All2.len h.2]
  | [], _ :: _, h => False.elim h
  | _ :: _, [], h => False.elim h
theorem All2.snoc {v : α} {x : β} (q : R v x) : ∀ {vs : List α} {xs : List β}, All2 R vs xs → All2 R (vs ++ [v]) (xs ++ [x])
  | [], [], _ => ⟨q, trivial⟩
  | _ :: _, _ :: _, h => ⟨h.1, All2.snoc q h.2⟩
  | [], _ :: _, h => False.elim h
  | _ :: _, [], h => False.elim h
theorem All2.get : ∀ {vs : List α} {xs : List β} {i : Nat} {v : α}, All2 R vs xs → vs[i]? = some v → ∃ x, xs[i]? = some x ∧ R v x
  | [], [], i, v, _, e => by simp at e
  | u :: vs, x :: xs, 0, v, h, e => by
    have e2 : u = v := Option.some.inj e
    exact ⟨x, rfl, e2 ▸ h.1⟩
  | u :: vs, x :: xs, i + 1, v, h, e => All2.get (i := i) h.2 e
  | [], _ :: _, _, _, h, _ => False.elim h
  | _ :: _, [], _, _, h, _ => False.elim h
end
/-- the value is the whole number -/
def isI : Hp → V → Int → Prop := fun _ v x => v = .int x
/-- the value is an object that isn't at D -/
def isO {α : Type} (D : Addr) (o : α → HO) : Hp → V → α → Prop := fun H v x => ∃ a, a ≠ D ∧ v = .ref a ∧ H a = some (o x)
/-- the value is an object -/
def atO {α : Type} (o : α → HO) : Hp → V → α → Prop := fun H v x => ∃ a, v = .ref a ∧ H a = some (o x)
theorem isO.at {α : Type} {D : Addr} {o : α → HO} {H : Hp} {vs : List V} {xs : List α} (h : All2 (isO D o H) vs xs) : All2 (atO o H) vs xs := h.mono fun _ _ ⟨a, _, e, q⟩ => ⟨a, e, q⟩
theorem atO.same {α : Type} {o : α → HO} {H H' : Hp} {vs : List V} {xs : List α} (s : Same H H') (h : All2 (atO o H) vs xs) : All2 (atO o H') vs xs := h.mono fun _ _ ⟨a, e, q⟩ => ⟨a, e, s _ _ q⟩
theorem isI.map {H : Hp} : ∀ {vs : List V} {ns : List Int}, All2 (isI H) vs ns → vs = ns.map V.int
  | [], [], _ => rfl
  | v :: vs, n :: ns, h => by
    rw [List.map_cons, isI.map h.2]
    exact congrArg (· :: _) h.1
  | [], _ :: _, h => False.elim h
  | _ :: _, [], h => False.elim h
def Stable {α : Type} (D : Addr) (R : Hp → V → α → Prop) : Prop := ∀ H H' v x, (∀ b u, b ≠ D → H b = some u → H' b = some u) → R H v x → R H' v x
theorem stI {D : Addr} : Stable D isI := fun _ _ _ _ _ h => h
theorem stO {α : Type} {D : Addr} {o : α → HO} : Stable D (isO D o) := fun _ _ _ _ k ⟨a, n, e, q⟩ => ⟨a, n, e, k _ _ n q⟩
/-- a list is being made at D: after i turns it holds L i -/
def LcInv {α : Type} (H1 : Hp) (D : Addr) (R : Hp → V → α → Prop) (L : Nat → List α) (i : Nat) (H : Hp) : Prop := Same H1 H ∧ ∃ acc, H D = some (.lst acc) ∧ All2 (R H) acc (L i)
section
variable {α : Type} {H1 : Hp} {D : Addr} {R : Hp → V → α → Prop} {L : Nat → List α} {i : Nat} {H H' : Hp}
theorem lc0 (nD : H1 D = none) (e : L 0 = []) : LcInv H1 D R L 0 (upd H1 D (.lst [])) := by
  refine ⟨same_upd nD, [], upd_same, ?_⟩
  rw [e]
  trivial
theorem lcMore (st : Stable D R) (nD : H1 D = none) (inv : LcInv H1 D R L i H) (s : Same H H') {y : V} {z : α} (r : R H' y z) (e : L (i + 1) = L i ++ [z]) (room : (L i).length ≤ 100000) :
    ∃ acc, H' D = some (.lst acc) ∧ acc.length < sizeLine ∧ LcInv H1 D R L (i + 1) (upd H' D (.lst (acc ++ [y]))) := by
  obtain ⟨s1, acc, hd, ha⟩ := inv
  have put : ∀ b u, b ≠ D → H' b = some u → (upd H' D (.lst (acc ++ [y]))) b = some u := fun b u n q => by
    rw [upd_ne n]
    exact q
  refine ⟨acc, s _ _ hd, ?_, same_put (s1.trans s) nD, acc ++ [y], upd_same, ?_⟩
  · rw [ha.len]
    exact line room
  · rw [e]
    refine All2.snoc (st _ _ _ _ put r) (ha.mono fun v x q => ?_)
    exact st _ _ _ _ (fun b u n z => put b u n (s _ _ z)) q
theorem lcSkip (st : Stable D R) (inv : LcInv H1 D R L i H) (s : Same H H') (e : L (i + 1) = L i) : LcInv H1 D R L (i + 1) H' := by
  obtain ⟨s1, acc, hd, ha⟩ := inv
  refine ⟨s1.trans s, acc, s _ _ hd, ?_⟩
  rw [e]
  exact ha.mono fun v x q => st _ _ _ _ (fun b u _ z => s _ _ z) q
theorem lcNe (inv : LcInv H1 D R L i H) {p : Addr} (np : H p = none) : p ≠ D := fun e => by
  obtain ⟨_, acc, hd, _⟩ := inv
  rw [e, hd] at np
  cases np
theorem lcInts {L : Nat → List Int} (inv : LcInv H1 D isI L i H) : Same H1 H ∧ H D = some (.lst ((L i).map V.int)) := by
  obtain ⟨s1, acc, hd, ha⟩ := inv
  rw [isI.map ha] at hd
  exact ⟨s1, hd⟩
theorem lcObjs {o : α → HO} (inv : LcInv H1 D (isO D o) L i H) : Same H1 H ∧ ∃ acc, H D = some (.lst acc) ∧ All2 (atO o H) acc (L i) := by
  obtain ⟨s1, acc, hd, ha⟩ := inv
  exact ⟨s1, acc, hd, isO.at ha⟩
end
theorem take_map_more {α β : Type} {f : α → β} {l : List α} {i : Nat} {x : α} (h : l[i]? = some x) : (l.take (i + 1)).map f = (l.take i).map f ++ [f x] := by
  rw [take_more h, List.map_append]
  rfl
theorem take_filter_yes {α : Type} {f : α → Bool} {l : List α} {i : Nat} {x : α} (h : l[i]? = some x) (k : f x = true) : (l.take (i + 1)).filter f = (l.take i).filter f ++ [x] := by
  rw [take_more h, List.filter_append, List.filter_cons_of_pos k]
  rfl
theorem take_filter_no {α : Type} {f : α → Bool} {l : List α} {i : Nat} {x : α} (h : l[i]? = some x) (k : ¬ f x = true) : (l.take (i + 1)).filter f = (l.take i).filter f := by
  rw [take_more h, List.filter_append, List.filter_cons_of_neg k]
  simp
theorem range_more {α : Type} (f : Nat → α) (i : Nat) : (List.range (i + 1)).map f = (List.range i).map f ++ [f i] := by
  rw [List.range_succ, List.map_append]
  rfl
/-! a pair of whole numbers -/
def prO (p : Int × Int) : HO := .tup [.int p.1, .int p.2]
def lsO (ns : List Int) : HO := .lst (ns.map V.int)
end Ps
/-! ### rounded -/
namespace Ps
open PySem PySem.Spec PyProof.Rows L2
section
variable {P : Program} {w : World} {K : PySem.W.Frag} {mg : Str → Option Value} {base : Heap}
def rnd (a b : Int) : Int := if b = 0 then 0 else (2 * a + b) / (2 * b)
def spRnd : Sp := fun vs H Q _ => ∃ a b : Int, vs = [.int a, .int b] ∧ 0 ≤ b ∧ b ≤ 4294967296 ∧ Q (.int (rnd a b)) H
theorem scRnd : FnScope ["dividend", "divisor"] ["dividend", "divisor"] (defScope sRounded) := ⟨rfl, rfl, rfl, by decide +kernel, rfl, by decide +kernel, by decide +kernel⟩
theorem ok_rnd {f : Addr} {fd : FuncData} (F : Fun K "rounded" "rounded" sRounded f fd) : FnOk P w K mg base CX0 1 f fd ["dividend", "divisor"] spRnd := by
  refine F.ok scRnd (fun vs H Q E h => ?_) (fun cdv A outer s H vs Q E hr h => ?_)
  · obtain ⟨a, b, rfl, _⟩ := h
    rfl
  · obtain ⟨a, b, rfl, h1, h2, q⟩ := h
    refine ⟨_, pss_cons (ps_if (pt_cmpR op_eq (pv 1) pe_int (nomark _)) (pss_one (ps_ret pe_int)) pss_nil) (pss_one (ps_ret (pe_op op_fdivW (pe_op op_add (pe_op op_mul pe_int (pv 0)) (pv 1)) (pe_op op_mul pe_int (pv 1))))), ?_⟩
    refine ⟨_, rfl, rfl, _, rfl, ite2 (fun e => ?_) (fun e => ?_)⟩
    · have e0 : b = 0 := V.int.inj (of_decide_eq_true e)
      unfold rnd at q
      rw [if_pos e0] at q
      exact q
    · have e0 : ¬ b = 0 := fun z => e (decide_eq_true (congrArg V.int z))
      unfold rnd at q
      rw [if_neg e0] at q
      refine ⟨_, rfl, _, _, rfl, rfl, .inl ⟨by decide, by decide⟩, _, rfl, _, _, rfl, rfl, _, rfl, _, _, rfl, rfl, .inl ⟨by decide, by decide⟩, _, _, rfl, rfl, wide_div (b := 64) (by omega) ?_ (by decide) (by decide), q⟩
      show (2 * b).natAbs < 18446744073709551616
      omega
end
end Ps
/-! ### too_long -/
namespace Ps
open PySem PySem.Spec PyProof.Rows L2
section
variable {P : Program} {w : World} {K : PySem.W.Frag} {mg : Str → Option Value} {base : Heap}
def spLong (K : PySem.W.Frag) : Sp := fun vs H Q _ => ∃ (a : Addr) (ns : List Int), vs = [.ref a] ∧ SqL K H a (ns.map V.int) ∧ Q (.bl (decide (4096 < ns.length))) H
theorem scLong : FnScope ["numbers"] ["numbers"] (defScope sLong) := ⟨rfl, rfl, rfl, by decide +kernel, rfl, by decide +kernel, by decide +kernel⟩
theorem ok_long {f : Addr} {fd : FuncData} {t1} (F : Fun K "too_long" "too_long" sLong f fd) (cP : mg "PLACES_MOST" = some (.int 4096 t1)) (mL : mg "len" = none) : FnOk P w K mg base CX0 1 f fd ["numbers"] (spLong K) := by
  refine F.ok scLong (fun vs H Q E h => ?_) (fun cdv A outer s H vs Q E hr h => ?_)
  · obtain ⟨a, ns, rfl, _⟩ := h
    rfl
  · obtain ⟨a, ns, rfl, hS, q⟩ := h
    refine ⟨_, pss_one (ps_ret (pe_cmpR op_gt (pe_callB call_len_seq (by rfl) mL PySem.boot_len (pa_cons (pv 0) pa_nil)) (pe_gi (by rfl) cP) (nomark _))), ?_⟩
    refine ⟨_, rfl, a, _, rfl, .inl hS, _, _, rfl, rfl, ?_⟩
    have e : decide ((4096 : Int) < ((ns.map V.int).length : Int)) = decide (4096 < ns.length) := by
      rw [List.length_map]
      exact decide_eq_decide.mpr (by omega)
    show Q (.bl (decide ((4096 : Int) < ((ns.map V.int).length : Int)))) H
    rw [e]
    exact q
end
end Ps
/-! ### sm_finish -/
namespace Ps
open PySem PySem.Spec PyProof.Rows L2
section
variable {P : Program} {w : World} {K : PySem.W.Frag} {mg : Str → Option Value} {base : Heap}
theorem fin_rnd (s m : Int) : rnd s m % 4294967296 = finG s m := by
  unfold rnd finG near
  by_cases h : m = 0
  · rw [if_pos h, if_pos h]
    rfl
  · rw [if_neg h, if_neg h]
theorem zip_at {α β : Type} {l : List α} {m : List β} {i : Nat} {x : α} {y : β} (h1 : l[i]? = some x) (h2 : m[i]? = some y) : (l.zip m)[i]? = some (x, y) := List.getElem?_zip_eq_some.mpr ⟨h1, h2⟩
def spFin (K : PySem.W.Frag) : Sp := fun vs H Q _ => ∃ (a b : Addr) (ss ms : List Int), vs = [.ref a, .ref b] ∧ SqL K H a (ss.map V.int) ∧ SqL K H b (ms.map V.int) ∧ ms.length = ss.length ∧ (∀ m ∈ ms, 0 ≤ m ∧ m ≤ 4294967295) ∧ ∀ H' p, H' p = some (.lst ((finAns ss ms).map V.int)) → Q (.ref p) H'
abbrev nFin : List Str := ["sums", "much", "total", "part"]
theorem scFin : FnScope nFin ["sums", "much"] (defScope sFin) := ⟨rfl, rfl, rfl, by decide +kernel, rfl, by decide +kernel, by decide +kernel⟩
theorem ok_fin {f fL fR : Addr} {fd fdL fdR : FuncData} {t1 t2} (F : Fun K "sm_finish" "sm_finish" sFin f fd)
    (GL : FnOk P w K mg base CX0 1 fL fdL ["numbers"] (spLong K)) (gL : mg "too_long" = some (.ref fL)) (kL : PySem.W.keepIn K (.ref fL) = true) (bL : Binds K fdL ["numbers"] [])
    (GR : FnOk P w K mg base CX0 1 fR fdR ["dividend", "divisor"] spRnd) (gR : mg "rounded" = some (.ref fR)) (kR : PySem.W.keepIn K (.ref fR) = true) (bR : Binds K fdR ["dividend", "divisor"] [])
    (cR : mg "REFUSED" = some (.int (-2) t1)) (cW : mg "WORD" = some (.int 4294967296 t2)) (mZ : mg "zip" = none) : FnOk P w K mg base CX0 2 f fd ["sums", "much"] (spFin K) := by
  refine F.ok scFin (fun vs H Q E h => ?_) (fun cdv A outer s H vs Q E hr h => ?_)
  · obtain ⟨a, b, ss, ms, rfl, _⟩ := h
    rfl
  · obtain ⟨a, b, ss, ms, rfl, hS, hM, hlen, hms, q⟩ := h
    refine ⟨_, pss_cons (ps_if (pt_val (pe_call GL hr (by rfl) gL kL bL .nil pass0 (pa_cons (pv 0) pa_nil))) (pss_one (ps_ret (pe_lst (pa_cons (pe_gi (by rfl) cR) pa_nil)))) pss_nil)
      (pss_one (ps_ret (pe_op op_cat (pe_lst (pa_cons pe_int pa_nil)) (pe_lc (own := [("total", 2), ("part", 3)]) (g := gTup K 2 (gCons (gName 2) (gCons (gName 3) gNil))) (tt := tYes)
        (te := tOp (rI (fun _ j => 0 < j) fun i j => .int (i % j)) (tCall spRnd [] E0 (tCons (tVar 2) (tCons (tVar 3) tNil))) (tC (.int 4294967296))) rfl scFin.nd (pi_zip (by rfl) mZ (pa_cons (pv 0) (pa_cons (pv 1) pa_nil))) (blkOk_by (N := nFin) (sc := defScope sFin) (by decide +kernel))
        (fun _ _ _ _ _ => pg_tup rfl (pgs_cons (pg_name (i := 2) scFin.nd rfl (Or.inl rfl)) (pgs_cons (pg_name (i := 3) scFin.nd rfl (Or.inl rfl)) pgs_nil))) (fun _ _ _ _ _ => pts_nil)
        (fun _ _ _ _ _ => pe_op op_mod (pe_call GR hr (by rfl) gR kR bR .nil pass0 (pa_cons (pv 2) (pa_cons (pv 3) pa_nil))) (pe_gi (by rfl) cW)))))), ?_⟩
    refine ⟨_, rfl, a, ss, rfl, hS, _, rfl, ite2 (fun e => ?_) (fun e => ?_)⟩
    · refine ⟨(by show 1 ≤ sizeLine; decide), fun p np => q _ p ?_⟩
      have e1 := of_decide_eq_true e
      unfold finAns
      rw [if_neg (by omega)]
      exact upd_same
    · have e1 : ss.length ≤ 4096 := by
        have e2 : ¬ 4096 < ss.length := fun z => e (decide_eq_true z)
        omega
      refine ⟨(by show 1 ≤ sizeLine; decide), fun p np => ?_⟩
      have s1 := same_upd (o := .lst [V.int 0]) np
      refine ⟨_, rfl, _, rfl, a, b, _, _, rfl, s1.seq hS, s1.seq hM, fun D nD => ?_⟩
      refine lc_it (walk_zip (K := K) (a := a) (b := b) (xs := ss.map V.int) (ys := ms.map V.int) (n := ss.length) (by rw [List.length_map, List.length_map]; omega)) (LcInv _ D isI (fun i => ((ss.zip ms).take i).map fun p => finG p.1 p.2)) (lc0 nD rfl) ?_ ?_ ?_
      · rintro i H' _ inv
        exact ⟨inv.1.seq (s1.seq hS), inv.1.seq (s1.seq hM)⟩
      · rintro i x H' H'' hi inv ⟨T, x1, y1, rfl, nT, rfl, hx, hy⟩
        obtain ⟨sv, hs, rfl⟩ := map_at hx
        obtain ⟨mv, hm, rfl⟩ := map_at hy
        have bm := hms mv (List.mem_of_getElem? hm)
        refine ⟨T, _, rfl, SqT.of upd_same, rfl, _, _, rfl, _, _, rfl, rfl, rfl, ?_⟩
        refine ⟨_, rfl, _, rfl, sv, mv, rfl, by omega, by omega, _, _, rfl, rfl, (by show (0 : Int) < 4294967296; decide), ?_⟩
        refine lcMore stI nD inv (same_upd nT) (z := finG sv mv) (congrArg V.int (fin_rnd sv mv)) (take_map_more (zip_at hs hm)) ?_
        rw [List.length_map, List.length_take]
        omega
      · intro H' inv
        obtain ⟨s2, hD⟩ := lcInts inv
        have ez : (ss.zip ms).take ss.length = ss.zip ms := List.take_of_length_le (by rw [List.length_zip]; omega)
        rw [ez] at hD
        refine ⟨p, D, _, _, rfl, rfl, s2 _ _ upd_same, hD, ?_, fun p2 np2 => q _ p2 ?_⟩
        · rw [List.length_map, List.length_map, List.length_zip]
          exact Nat.le_of_lt (line (by show 1 + min ss.length ms.length ≤ 100000; omega))
        · unfold finAns
          rw [if_pos e1, upd_same]
          rfl
end
end Ps
/-! ### the end -/
namespace Ps
open PySem PySem.Spec PyProof.Rows L2
theorem all_mk {P : Program} {w : World} {K : PySem.W.Frag} {h : Heap} {mg : Str → Option Value} {fa f1 f2 f3 : Addr} (X : K.In h) (G : h.Ns mainGlobals mg) (hfa : mg "sm_finish" = some (.ref fa)) {tREFUSED} {tWORD} {tPLACES_MOST}
    {od1 an1 od2 an2 od3 an3 : Option Addr} {sl1 sl2 sl3 : Array (Option Value)} {oc1 kV1 dc1 pm1 cd1 ct1 oc2 kV2 dc2 pm2 cd2 ct2 oc3 kV3 dc3 pm3 cd3 ct3 : Value}
    (a1 : PySem.W.nsIn K mainGlobals "rounded" = some (some (.ref f1))) (l1 : K.lookup f1 = some ⟨oc1, od1, .func (PySem.W.fnOf "rounded" "rounded" (defArgs sRounded) (defBody sRounded) (defScope sRounded) .none kV1 dc1 pm1 an1 cd1 ct1), sl1⟩) (c1 : PySem.W.codeIn K cd1 "rounded" = true) (k1 : PySem.W.keepIn K (.ref f1) = true)
    (a2 : PySem.W.nsIn K mainGlobals "too_long" = some (some (.ref f2))) (l2 : K.lookup f2 = some ⟨oc2, od2, .func (PySem.W.fnOf "too_long" "too_long" (defArgs sLong) (defBody sLong) (defScope sLong) .none kV2 dc2 pm2 an2 cd2 ct2), sl2⟩) (c2 : PySem.W.codeIn K cd2 "too_long" = true) (k2 : PySem.W.keepIn K (.ref f2) = true)
    (a3 : PySem.W.nsIn K mainGlobals "sm_finish" = some (some (.ref f3))) (l3 : K.lookup f3 = some ⟨oc3, od3, .func (PySem.W.fnOf "sm_finish" "sm_finish" (defArgs sFin) (defBody sFin) (defScope sFin) .none kV3 dc3 pm3 an3 cd3 ct3), sl3⟩) (c3 : PySem.W.codeIn K cd3 "sm_finish" = true) (k3 : PySem.W.keepIn K (.ref f3) = true)
    (gREFUSED : PySem.W.nsIn K mainGlobals "REFUSED" = some (some (.int (-2) tREFUSED)))
    (gWORD : PySem.W.nsIn K mainGlobals "WORD" = some (some (.int 4294967296 tWORD)))
    (gPLACES_MOST : PySem.W.nsIn K mainGlobals "PLACES_MOST" = some (some (.int 4096 tPLACES_MOST)))
    (zlen : PySem.W.nsIn K mainGlobals "len" = some none)
    (zzip : PySem.W.nsIn K mainGlobals "zip" = some none)
    : ∃ fd : FuncData, (∀ (s : Shared) (us : List Value), us.length = (["sums", "much"] : List Str).length → BindsTo s fd ⟨us, []⟩ ((["sums", "much"] : List Str).zip us)) ∧ ∀ base : Heap, K.In base → base.Ns mainGlobals mg → FnOk P w K mg base CX0 2 fa fd ["sums", "much"] (spFin K) := by
  have e := hfa.symm.trans (PySem.W.mg_of X G a3)
  cases e
  have F_rounded := fun_mk (st := sRounded) l1 c1 k1
  have k_rounded := k1
  have g_rounded := PySem.W.mg_of X G a1
  have b_rounded := F_rounded.binds (ps := ["dividend", "divisor"]) fun _ _ _ _ _ _ us hl => match us, hl with | [_, _], _ => rfl
  have F_too_long := fun_mk (st := sLong) l2 c2 k2
  have k_too_long := k2
  have g_too_long := PySem.W.mg_of X G a2
  have b_too_long := F_too_long.binds (ps := ["numbers"]) fun _ _ _ _ _ _ us hl => match us, hl with | [_], _ => rfl
  have F_sm_finish := fun_mk (st := sFin) l3 c3 k3
  have k_sm_finish := k3
  have g_sm_finish := PySem.W.mg_of X G a3
  have b_sm_finish := F_sm_finish.binds (ps := ["sums", "much"]) fun _ _ _ _ _ _ us hl => match us, hl with | [_, _], _ => rfl
  have c_REFUSED := PySem.W.mg_of X G gREFUSED
  have c_WORD := PySem.W.mg_of X G gWORD
  have c_PLACES_MOST := PySem.W.mg_of X G gPLACES_MOST
  have z_len := PySem.W.mg_none_of X G zlen
  have z_zip := PySem.W.mg_none_of X G zzip
  exact ⟨PySem.W.fnOf "sm_finish" "sm_finish" (defArgs sFin) (defBody sFin) (defScope sFin) .none kV3 dc3 pm3 an3 cd3 ct3, fun s us hu => match us, hu with | [_, _], _ => .of_eq rfl, fun base _ _ =>
    ok_fin F_sm_finish (ok_long F_too_long c_PLACES_MOST z_len) g_too_long k_too_long b_too_long (ok_rnd F_rounded) g_rounded k_rounded b_rounded c_REFUSED c_WORD z_zip⟩
end Ps
open PySem PySem.W PyProof.Rows
set_option maxRecDepth 100000 in
set_option maxHeartbeats 8000000 in
theorem PySem.Challenge.cw_picturestack_s06_sm_finish_holds : PySem.Challenge.rw_picturestack_s06_sm_finish.Holds := by
  w_on; k_headS; (case hw => exact ⟨[.list [], .list []], by decide +kernel, by decide +kernel⟩)
  k_fillS
  refine L2.walk_specK (r := PySem.Challenge.rw_picturestack_s06_sm_finish) (k := 2) (CX := L2.CX0) (ps := ["sums", "much"]) (sp := Ps.spFin) (by decide +kernel) rfl rfl ⟨rfl, by decide, by decide⟩ (fun w h Y => PySem.W.kIn_of Y) ?F ?S (fun _ _ _ _ z => z)
  case F =>
    intro w mg fa h Y KX G hmg
    refine' Ps.all_mk KX G hmg ?a1 ?l1 ?c1 ?k1 ?a2 ?l2 ?c2 ?k2 ?a3 ?l3 ?c3 ?k3 ?gREFUSED ?gWORD ?gPLACES_MOST ?zlen ?zzip
    (case a1 => k_is)
    (case l1 => k_is)
    (case c1 => k_is)
    (case k1 => k_is)
    (case a2 => k_is)
    (case l2 => k_is)
    (case c2 => k_is)
    (case k2 => k_is)
    (case a3 => k_is)
    (case l3 => k_is)
    (case c3 => k_is)
    (case k3 => k_is)
    (case gREFUSED => k_is)
    (case gWORD => k_is)
    (case gPLACES_MOST => k_is)
    (case zlen => k_is)
    (case zzip => k_is)
  case S =>
    intro K H xs a hO hwi hask hx
    obtain ⟨ss, ms, uu⟩ := a
    rcases hx with _ | ⟨h1, hx⟩
    rcases hx with _ | ⟨h2, hx⟩
    cases hx
    cases h1 with
    | lst hs ha =>
    cases h2 with
    | lst hs2 ha2 =>
      have e := L2.ints_dw ss _ ha
      subst e
      have e := L2.ints_dw ms _ ha2
      subst e
      have q : ((Codec.inLen 0 5000 ss && ss.all (Codec.inInt 0 18446744073709551615)) && ((Codec.inLen 0 5000 ms && ms.all (Codec.inInt 0 4294967295)) && true)) = true := hwi
      simp only [Bool.and_eq_true] at q
      obtain ⟨⟨_, q1⟩, ⟨_, q2⟩, _⟩ := q
      have r1 : ∀ n ∈ ss, 0 ≤ n := fun n hn => (Codec.inInt_iff.mp (List.all_eq_true.mp q1 n hn)).1
      have r2 : ∀ n ∈ ms, 0 ≤ n ∧ n ≤ 4294967295 := fun n hn => (Codec.inInt_iff.mp (List.all_eq_true.mp q2 n hn))
      have hask' : PySh69.sm_finish_asked ss ms = true := hask
      refine ⟨_, _, ss, ms, rfl, hs, hs2, Ps.fin_len hask', r2, fun H' p hp => ?_⟩
      show L2.Dw K H' (.ref p) (WData.list ((PySh69.sm_finish ss ms).map WData.int))
      rw [Ps.fin_is r1 fun n hn => (r2 n hn).1]
      exact .lst (L2.SqL.of hp) (L2.dw_ints _)
#print axioms PySem.Challenge.cw_picturestack_s06_sm_finish_holds
