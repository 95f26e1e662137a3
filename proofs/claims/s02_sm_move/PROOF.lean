import PyProof.Rows.All
import Wide.All
import OpenK.AllK
import Wide.FinOn
import Open.SpecLaws
import KE.OsGo
import HandS.ForSpec
import HandS.ForMost
import PySem.Challenge.RW_picturestack_s02_sm_move
set_option Elab.async false
set_option linter.all false
set_option maxRecDepth 100000
set_option maxHeartbeats 4000000
/-! ### plain mathematics: words with a sign, ranges, lists row by row -/
namespace Ps
/-- a word with its sign -/
def sg (x : Int) : Int := if 2147483648 ≤ x then x - 4294967296 else x
theorem sg_int32 {x : Int} (h0 : 0 ≤ x) : Sh69Neutral.int32 x.toNat = sg x := by
  unfold Sh69Neutral.int32 sg
  by_cases h : 2147483648 ≤ x
  · rw [if_pos h, if_neg (by omega)]
    omega
  · rw [if_neg h, if_pos (by omega)]
    omega
def inR (lo hi n : Int) : Bool := decide (lo ≤ n) && decide (n ≤ hi)
theorem inR_iff {lo hi n : Int} : inR lo hi n = true ↔ lo ≤ n ∧ n ≤ hi := by
  unfold inR
  rw [Bool.and_eq_true, decide_eq_true_iff, decide_eq_true_iff]
/-- column and row stand in a picture -/
def inPic (c r w h : Int) : Bool := decide (0 ≤ c) && (decide (c < w) && (decide (0 ≤ r) && decide (r < h)))
theorem inPic_iff {c r w h : Int} : inPic c r w h = true ↔ 0 ≤ c ∧ c < w ∧ 0 ≤ r ∧ r < h := by
  unfold inPic
  simp only [Bool.and_eq_true, decide_eq_true_iff]
theorem fm_congr {α β : Type} {f g : α → List β} : ∀ {l : List α}, (∀ a ∈ l, f a = g a) → l.flatMap f = l.flatMap g
  | [], _ => rfl
  | a :: l, h => by
    rw [List.flatMap_cons, List.flatMap_cons, h a (List.mem_cons_self ..), fm_congr fun b hb => h b (List.mem_cons_of_mem _ hb)]
/-- row by row, the first i rows -/
def rows {α : Type} (g : Nat → Nat → α) (w i : Nat) : List α := (List.range i).flatMap fun r => (List.range w).map fun c => g c r
theorem rows_succ {α : Type} (g : Nat → Nat → α) (w i : Nat) : rows g w (i + 1) = rows g w i ++ (List.range w).map fun c => g c i := by
  unfold rows
  rw [List.range_succ, List.flatMap_append]
  simp only [List.flatMap_cons, List.flatMap_nil, List.append_nil]
theorem rows_length {α : Type} (g : Nat → Nat → α) (w : Nat) : ∀ i, (rows g w i).length = i * w
  | 0 => by
    unfold rows
    simp
  | i + 1 => by
    rw [rows_succ, List.length_append, rows_length g w i, List.length_map, List.length_range, Nat.succ_mul]
theorem row_succ {α : Type} (g : Nat → Nat → α) (i j : Nat) : (List.range (j + 1)).map (fun c => g c i) = (List.range j).map (fun c => g c i) ++ [g j i] := by
  rw [List.range_succ, List.map_append]
  rfl
theorem rows_congr {α : Type} {g g' : Nat → Nat → α} {w h : Nat} (e : ∀ c r, c < w → r < h → g c r = g' c r) : rows g w h = rows g' w h := by
  unfold rows
  refine fm_congr fun r hr => ?_
  refine List.map_congr_left fun c hc => ?_
  exact e c r (List.mem_range.mp hc) (List.mem_range.mp hr)
theorem rows_map {α β : Type} (f : α → β) (g : Nat → Nat → α) (w h : Nat) : (rows g w h).map f = rows (fun c r => f (g c r)) w h := by
  unfold rows
  rw [List.map_flatMap]
  refine fm_congr fun r _ => ?_
  rw [List.map_map]
  rfl
theorem ints_each (w h : Nat) (f : Nat → Nat → Nat) : Sh69Neutral.ints (Sh69.each w h f) = rows (fun c r => (f c r : Int)) w h := by
  unfold Sh69Neutral.ints Sh69.each rows
  rw [List.map_flatMap]
  refine fm_congr fun r _ => ?_
  rw [List.map_map]
  rfl
/-- the place in a list of rows -/
theorem place_lt {w h c r : Int} (hc0 : 0 ≤ c) (hc : c < w) (hr0 : 0 ≤ r) (hr : r < h) : 0 ≤ r * w + c ∧ r * w + c < w * h := by
  have h1 : 0 ≤ r * w := Int.mul_nonneg hr0 (by omega)
  have h2 : (r + 1) * w ≤ h * w := Int.mul_le_mul_of_nonneg_right (by omega) (by omega)
  rw [Int.add_mul, Int.one_mul, Int.mul_comm h w] at h2
  omega
theorem nats_getD {ns : List Int} (h0 : ∀ n ∈ ns, 0 ≤ n) (i : Nat) : ((Sh69.num (Sh69Neutral.nats ns) i : Nat) : Int) = ns.getD i 0 := by
  unfold Sh69.num Sh69Neutral.nats
  rw [List.getD_eq_getElem?_getD, List.getD_eq_getElem?_getD, List.getElem?_map]
  cases e : ns[i]? with
  | none => rfl
  | some z =>
    have hz : 0 ≤ z := h0 z (List.mem_of_getElem? e)
    show ((z.toNat : Nat) : Int) = z
    omega
theorem nats_length (ns : List Int) : (Sh69Neutral.nats ns).length = ns.length := List.length_map _
theorem list_at {ns : List Int} {i : Nat} (h : i < ns.length) : ns[i]? = some (ns.getD i 0) := by
  rw [List.getD_eq_getElem?_getD, List.getElem?_eq_getElem h]
  rfl
end Ps
namespace Ps
/-! ### sm_move: the mirror, and that it is the specification -/
def moveG (dx dy w h : Int) (ns : List Int) (c r : Nat) : Int := if inPic ((c : Int) - dx) ((r : Int) - dy) w h = true then ns.getD (((r : Int) - dy) * w + ((c : Int) - dx)).toNat 0 else 0
def movesOk (l : List Int) : Bool := l.all (inR (-8192) 8192)
def sidesOk (l : List Int) : Bool := l.all (inR 1 64)
def moveOk (dx dy w h : Int) : Bool := movesOk [sg dx, sg dy] && sidesOk [w, h]
def moveAns (dx dy w h : Int) (ns : List Int) : List Int := if moveOk dx dy w h = true then 0 :: rows (moveG (sg dx) (sg dy) w h ns) w.toNat h.toNat else [-2]
theorem moveOk_iff {dx dy w h : Int} : moveOk dx dy w h = true ↔ (-8192 ≤ sg dx ∧ sg dx ≤ 8192) ∧ (-8192 ≤ sg dy ∧ sg dy ≤ 8192) ∧ (1 ≤ w ∧ w ≤ 64) ∧ (1 ≤ h ∧ h ≤ 64) := by
  unfold moveOk movesOk sidesOk
  simp only [List.all_cons, List.all_nil, Bool.and_true, Bool.and_eq_true, inR_iff, and_assoc]
theorem sized_iff {w h : Int} (hw : 0 ≤ w) (hh : 0 ≤ h) : Sh69.sized w.toNat h.toNat = true ↔ (1 ≤ w ∧ w ≤ 64) ∧ (1 ≤ h ∧ h ≤ 64) := by
  unfold Sh69.sized Sh69.among
  simp only [Bool.and_eq_true, decide_eq_true_iff]
  omega
theorem off_iff {c d : Int} (hc : 0 ≤ c) (hd : 0 ≤ d) : Sh69.off (Sh69Neutral.int32 c.toNat) (Sh69Neutral.int32 d.toNat) = true ↔ (-8192 ≤ sg c ∧ sg c ≤ 8192) ∧ (-8192 ≤ sg d ∧ sg d ≤ 8192) := by
  rw [sg_int32 hc, sg_int32 hd]
  unfold Sh69.off Sh69.within
  simp only [Bool.and_eq_true, decide_eq_true_iff]
theorem moveCond {dx dy w h : Int} (h1 : 0 ≤ dx) (h2 : 0 ≤ dy) (h3 : 0 ≤ w) (h4 : 0 ≤ h) : (Sh69.sized w.toNat h.toNat && Sh69.off (Sh69Neutral.int32 dx.toNat) (Sh69Neutral.int32 dy.toNat)) = moveOk dx dy w h := by
  rw [Bool.eq_iff_iff, moveOk_iff, Bool.and_eq_true, sized_iff h3 h4, off_iff h1 h2]
  constructor
  · rintro ⟨⟨a, b⟩, c, d⟩
    exact ⟨c, d, a, b⟩
  · rintro ⟨c, d, a, b⟩
    exact ⟨⟨a, b⟩, c, d⟩
theorem good_is {w h : Nat} {ns : List Int} (h0 : ∀ n ∈ ns, 0 ≤ n) (c r : Int) : (((Sh69.good w h (Sh69Neutral.nats ns) [] c r).getD 0 : Nat) : Int) = if inPic c r w h = true then ns.getD (r * w + c).toNat 0 else 0 := by
  unfold Sh69.good
  by_cases k : inPic c r w h = true
  · have k' := inPic_iff.mp k
    rw [if_pos k, if_neg (by omega)]
    show (((if Sh69.num [] _ = 0 then some (Sh69.num (Sh69Neutral.nats ns) (r.toNat * w + c.toNat)) else none).getD 0 : Nat) : Int) = _
    rw [if_pos (show Sh69.num [] (r.toNat * w + c.toNat) = 0 by unfold Sh69.num; simp)]
    show ((Sh69.num (Sh69Neutral.nats ns) (r.toNat * w + c.toNat) : Nat) : Int) = _
    rw [nats_getD h0]
    congr 1
    have e1 : ((r.toNat * w + c.toNat : Nat) : Int) = r * w + c := by
      rw [Int.natCast_add, Int.natCast_mul, Int.toNat_of_nonneg k'.2.2.1, Int.toNat_of_nonneg k'.1]
    omega
  · have k' : ¬ (0 ≤ c ∧ c < w ∧ 0 ≤ r ∧ r < h) := fun z => k (inPic_iff.mpr z)
    rw [if_neg k, if_pos (by omega)]
    rfl
theorem move_is {dx dy w h : Int} {ns : List Int} (h1 : 0 ≤ dx) (h2 : 0 ≤ dy) (h3 : 0 ≤ w) (h4 : 0 ≤ h) (h0 : ∀ n ∈ ns, 0 ≤ n) : PySh69.sm_move dx dy w h ns = moveAns dx dy w h ns := by
  show Sh69Neutral.told (Sh69.answer (if (Sh69.sized w.toNat h.toNat && Sh69.off (Sh69Neutral.int32 dx.toNat) (Sh69Neutral.int32 dy.toNat)) = true then Sh69.Call.move (Sh69Neutral.int32 dx.toNat) (Sh69Neutral.int32 dy.toNat) w.toNat h.toNat (Sh69Neutral.nats ns) else Sh69.Call.bad)) = _
  rw [moveCond h1 h2 h3 h4]
  unfold moveAns
  by_cases k : moveOk dx dy w h = true
  · rw [if_pos k, if_pos k]
    show 0 :: Sh69Neutral.ints (Sh69.moved _ _ _ _ _) = _
    unfold Sh69.moved
    rw [ints_each, sg_int32 h1, sg_int32 h2]
    refine congrArg _ (rows_congr fun c r _ _ => ?_)
    rw [good_is h0]
    unfold moveG
    rw [Int.toNat_of_nonneg h3, Int.toNat_of_nonneg h4]
  · rw [if_neg k, if_neg k]
    rfl
theorem move_len {dx dy w h : Int} {ns : List Int} (h1 : 0 ≤ dx) (h2 : 0 ≤ dy) (h3 : 0 ≤ w) (h4 : 0 ≤ h) (ha : PySh69.sm_move_asked dx dy w h ns = true) (k : moveOk dx dy w h = true) : ns.length = w.toNat * h.toNat := by
  have q : (Sh69Neutral.asked1 [[1, dx, dy, w, h], ns] && decide ((Sh69Neutral.f [[1, dx, dy, w, h], ns]).length < 1000000)) = true := ha
  rw [Bool.and_eq_true] at q
  have q1 : (Sh69Neutral.natural dx 32 && (Sh69Neutral.natural dy 32 && (Sh69Neutral.natural w 32 && (Sh69Neutral.natural h 32 && (ns.all (fun (z : Int) => Sh69Neutral.natural z 16) && (if (Sh69.sized w.toNat h.toNat && Sh69.off (Sh69Neutral.int32 dx.toNat) (Sh69Neutral.int32 dy.toNat)) = true then ns.length == (w.toNat * h.toNat) else ns.isEmpty || ns.length == (w.toNat * h.toNat))))))) = true := q.1
  rw [moveCond h1 h2 h3 h4, if_pos k] at q1
  simp only [Bool.and_eq_true] at q1
  exact beq_iff_eq.mp q1.2.2.2.2.2
end Ps
/-! ### the text by places -/
namespace Ps
open PySem L2
def topS (i : Nat) : Stmt := PySem.Challenge.pw_picturestack_s02_sm_move.main.body.getD i (.Pass ⟨0, 0, 0, 0⟩)
abbrev sSigned : Stmt := topS 6
abbrev sWithin : Stmt := topS 7
abbrev sMoves : Stmt := topS 8
abbrev sSides : Stmt := topS 9
abbrev sInPic : Stmt := topS 10
abbrev sMove : Stmt := topS 11
end Ps
/-! ### defs that several calls share -/
namespace Ps
open PySem PySem.Spec PyProof.Rows L2
theorem same_upd {H : Hp} {p : Addr} {o : HO} (h : H p = none) : Same H (upd H p o) := fun b x e => by
  rw [upd_ne (ne_of_none e h)]
  exact e
/-- a store to what was not tracked at the start -/
theorem same_put {H H1 : Hp} {p : Addr} {o : HO} (s : Same H H1) (h : H p = none) : Same H (upd H1 p o) := fun b x e => by
  rw [upd_ne (ne_of_none e h)]
  exact s _ _ e
theorem map_at {α β : Type} {f : α → β} {ns : List α} {i : Nat} {y : β} (hi : (ns.map f)[i]? = some y) : ∃ z, ns[i]? = some z ∧ y = f z := by
  rw [List.getElem?_map] at hi
  cases e : ns[i]? with
  | none =>
    rw [e] at hi
    cases hi
  | some z =>
    rw [e] at hi
    exact ⟨z, rfl, (Option.some.inj hi).symm⟩
theorem take_more {α : Type} {l : List α} {i : Nat} {x : α} (h : l[i]? = some x) : l.take (i + 1) = l.take i ++ [x] := by
  rw [List.take_add_one, h]
  rfl
/-- a name of the module that holds a whole number -/
theorem pe_gi {X : Cx} {x : Str} {pos : Pos} {i : Int} {t} (hg : Gl X x) (hm : X.mg x = some (.int i t)) (hd : (x == ("__debug__" : Str)) = false := by decide) : PE X (.Name x pos) (tC (.int i)) := pe_glob hg hm ⟨_, rfl⟩ hd
theorem line {n : Nat} (h : n ≤ 100000) : n < sizeLine := Nat.lt_of_le_of_lt h (by decide)
section
variable {P : Program} {w : World} {K : PySem.W.Frag} {mg : Str → Option Value} {base : Heap}
/-! signed -/
def spSigned : Sp := fun vs H Q _ => ∃ x : Int, vs = [.int x] ∧ Q (.int (sg x)) H
theorem scSigned : FnScope ["word"] ["word"] (defScope sSigned) := ⟨rfl, rfl, rfl, by decide +kernel, rfl, by decide +kernel, by decide +kernel⟩
theorem ok_signed {f : Addr} {fd : FuncData} {t1 t2} (F : Fun K "signed" "signed" sSigned f fd) (gH : mg "HALF_WORD" = some (.int 2147483648 t1)) (gW : mg "WORD" = some (.int 4294967296 t2)) : FnOk P w K mg base CX0 1 f fd ["word"] spSigned := by
  refine F.ok scSigned (fun vs H Q E h => ?_) (fun cdv A outer s H vs Q E hr h => ?_)
  · obtain ⟨x, rfl, _⟩ := h
    rfl
  · obtain ⟨x, rfl, q⟩ := h
    refine ⟨_, pss_cons (ps_if (pt_cmpR op_ge (pv 0) (pe_gi (by rfl) gH) (nomark _)) (pss_one (ps_ret (pe_op op_sub (pv 0) (pe_gi (by rfl) gW)))) pss_nil) (pss_one (ps_ret (pv 0))), ?_⟩
    refine ⟨_, rfl, _, _, rfl, rfl, _, rfl, ite2 (fun e => ?_) (fun e => ?_)⟩
    · refine ⟨_, rfl, _, _, rfl, rfl, ?_⟩
      unfold sg at q
      rw [if_pos (of_decide_eq_true e)] at q
      exact q
    · refine ⟨_, rfl, ?_⟩
      unfold sg at q
      rw [if_neg (fun z => e (decide_eq_true z))] at q
      exact q
/-! all_within -/
def spWithin (K : PySem.W.Frag) : Sp := fun vs H Q _ => ∃ (a : Addr) (ns : List Int) (lo hi : Int), vs = [.ref a, .int lo, .int hi] ∧ SqL K H a (ns.map V.int) ∧ ns.length ≤ 1000 ∧ ∀ H', Same H H' → Q (.bl (ns.all (inR lo hi))) H'
abbrev nWithin : List Str := ["numbers", "least", "most", "number"]
theorem scWithin : FnScope nWithin ["numbers", "least", "most"] (defScope sWithin) := ⟨rfl, rfl, rfl, by decide +kernel, rfl, by decide +kernel, by decide +kernel⟩
theorem ok_within {f : Addr} {fd : FuncData} (F : Fun K "all_within" "all_within" sWithin f fd) (mA : mg "all" = none) : FnOk P w K mg base CX0 1 f fd ["numbers", "least", "most"] (spWithin K) := by
  refine F.ok scWithin (fun vs H Q E h => ?_) (fun cdv A outer s H vs Q E hr h => ?_)
  · obtain ⟨a, ns, lo, hi, rfl, _⟩ := h
    rfl
  · obtain ⟨a, ns, lo, hi, rfl, hS, hlen, q⟩ := h
    refine ⟨_, pss_one (ps_ret (pe_callB (cr_all rfl) (by rfl) mA (by decide +kernel) (pa_cons (pe_lc (own := [("number", 3)]) (g := gName 3) (tt := tYes) rfl scWithin.nd (pi_list (pv 0)) (blkOk_by (N := nWithin) (sc := defScope sWithin) (by decide +kernel))
      (fun _ _ _ _ _ => pg_name (i := 3) scWithin.nd rfl (Or.inl rfl)) (fun _ _ _ _ _ => pts_nil) (fun _ _ _ _ _ => pe_chain op_le op_le (pv 1) (pv 3) (pv 2))) pa_nil))), ?_⟩
    refine ⟨_, rfl, a, rfl, ⟨_, hS⟩, fun D hD => ?_⟩
    refine lc_list (K := K) (a := a) (xs := ns.map V.int) (fun i H' => Same H H' ∧ H' D = some (.lst ((ns.take i).map fun n => V.bl (inR lo hi n)))) ⟨same_upd hD, upd_same⟩ (fun i H' _ p => p.1.seq hS) ?_ ?_
    · rintro i y H' hi' ⟨sm, hd⟩
      obtain ⟨z, hz, rfl⟩ := map_at hi'
      refine ⟨rfl, ?_⟩
      have fin : ∀ b : Bool, b = inR lo hi z → ∃ acc, H' D = some (.lst acc) ∧ acc.length < sizeLine ∧ (Same H (upd H' D (.lst (acc ++ [V.bl b]))) ∧ (upd H' D (.lst (acc ++ [V.bl b]))) D = some (.lst ((ns.take (i + 1)).map fun n => V.bl (inR lo hi n)))) := fun b e => by
        refine ⟨_, hd, ?_, same_put sm hD, ?_⟩
        · rw [List.length_map, List.length_take]
          exact small1000 (Nat.le_trans (Nat.min_le_right _ _) hlen)
        · rw [upd_same, take_more hz, List.map_append, e]
          rfl
      refine ⟨_, rfl, _, rfl, _, _, rfl, rfl, _, rfl, ite2 (fun e => ?_) (fun e => ?_)⟩
      · refine ⟨_, rfl, _, _, rfl, rfl, ?_⟩
        refine fin _ ?_
        unfold inR
        rw [e]
        rfl
      · refine fin _ ?_
        unfold inR
        rw [Bool.not_eq_true _ |>.mp e]
        rfl
    · rintro H' ⟨sm, hd⟩
      rw [List.length_map, List.take_length] at hd
      refine ⟨D, ns.map (inR lo hi), rfl, SqL.of ?_, ?_⟩
      · rw [hd, List.map_map]
        rfl
      · rw [List.all_map]
        exact q H' sm
/-! all_moves, all_sides: within two numbers -/
def spRange (K : PySem.W.Frag) (lo hi : Int) : Sp := fun vs H Q _ => ∃ (a : Addr) (ns : List Int), vs = [.ref a] ∧ SqL K H a (ns.map V.int) ∧ ns.length ≤ 1000 ∧ ∀ H', Same H H' → Q (.bl (ns.all (inR lo hi))) H'
theorem scMoves : FnScope ["numbers"] ["numbers"] (defScope sMoves) := ⟨rfl, rfl, rfl, by decide +kernel, rfl, by decide +kernel, by decide +kernel⟩
theorem ok_moves {f fW : Addr} {fd fdW : FuncData} {t1} (F : Fun K "all_moves" "all_moves" sMoves f fd) (FW : Fun K "all_within" "all_within" sWithin fW fdW) (bW : Binds K fdW ["numbers", "least", "most"] []) (gW : mg "all_within" = some (.ref fW)) (mA : mg "all" = none) (gM : mg "MOVE_MOST" = some (.int 8192 t1)) :
    FnOk P w K mg base CX0 2 f fd ["numbers"] (spRange K (-8192) 8192) := by
  have GW : FnOk P w K mg base CX0 1 fW fdW ["numbers", "least", "most"] (spWithin K) := ok_within FW mA
  refine F.ok scMoves (fun vs H Q E h => ?_) (fun cdv A outer s H vs Q E hr h => ?_)
  · obtain ⟨a, ns, rfl, _⟩ := h
    rfl
  · obtain ⟨a, ns, rfl, hS, hlen, q⟩ := h
    refine ⟨_, pss_one (ps_ret (pe_call GW hr (by rfl) gW FW.kp bW .nil pass0 (pa_cons (pv 0) (pa_cons (pe_un un_neg (pe_gi (by rfl) gM)) (pa_cons (pe_gi (by rfl) gM) pa_nil))))), ?_⟩
    exact ⟨_, rfl, _, rfl, a, ns, -8192, 8192, rfl, hS, hlen, q⟩
theorem scSides : FnScope ["numbers"] ["numbers"] (defScope sSides) := ⟨rfl, rfl, rfl, by decide +kernel, rfl, by decide +kernel, by decide +kernel⟩
theorem ok_sides {f fW : Addr} {fd fdW : FuncData} {t1} (F : Fun K "all_sides" "all_sides" sSides f fd) (FW : Fun K "all_within" "all_within" sWithin fW fdW) (bW : Binds K fdW ["numbers", "least", "most"] []) (gW : mg "all_within" = some (.ref fW)) (mA : mg "all" = none) (gM : mg "SIDE_MOST" = some (.int 64 t1)) :
    FnOk P w K mg base CX0 2 f fd ["numbers"] (spRange K 1 64) := by
  have GW : FnOk P w K mg base CX0 1 fW fdW ["numbers", "least", "most"] (spWithin K) := ok_within FW mA
  refine F.ok scSides (fun vs H Q E h => ?_) (fun cdv A outer s H vs Q E hr h => ?_)
  · obtain ⟨a, ns, rfl, _⟩ := h
    rfl
  · obtain ⟨a, ns, rfl, hS, hlen, q⟩ := h
    refine ⟨_, pss_one (ps_ret (pe_call GW hr (by rfl) gW FW.kp bW .nil pass0 (pa_cons (pv 0) (pa_cons pe_int (pa_cons (pe_gi (by rfl) gM) pa_nil))))), ?_⟩
    exact ⟨_, rfl, a, ns, 1, 64, rfl, hS, hlen, q⟩
/-! in_picture -/
def spInPic : Sp := fun vs H Q _ => ∃ c r w h : Int, vs = [.int c, .int r, .int w, .int h] ∧ Q (.bl (inPic c r w h)) H
theorem scInPic : FnScope ["column", "row", "w", "h"] ["column", "row", "w", "h"] (defScope sInPic) := ⟨rfl, rfl, rfl, by decide +kernel, rfl, by decide +kernel, by decide +kernel⟩
theorem ok_inpic {f : Addr} {fd : FuncData} (F : Fun K "in_picture" "in_picture" sInPic f fd) : FnOk P w K mg base CX0 1 f fd ["column", "row", "w", "h"] spInPic := by
  refine F.ok scInPic (fun vs H Q E h => ?_) (fun cdv A outer s H vs Q E hr h => ?_)
  · obtain ⟨c, r, w, h, rfl, _⟩ := h
    rfl
  · obtain ⟨c, r, w, h, rfl, q⟩ := h
    refine ⟨_, pss_one (ps_ret (pe_and (pe_chain op_le op_lt pe_int (pv 0) (pv 2)) (pe_one (pe_chain op_le op_lt pe_int (pv 1) (pv 3))))), ?_⟩
    unfold inPic at q
    refine ⟨_, rfl, _, _, rfl, rfl, _, rfl, ite2 (fun e1 => ?_) (fun e1 => ?_)⟩
    · rw [e1, Bool.true_and] at q
      refine ⟨_, rfl, _, _, rfl, rfl, _, rfl, ite2 (fun e2 => ?_) (fun e2 => ?_)⟩
      · rw [e2, Bool.true_and] at q
        refine ⟨_, rfl, _, _, rfl, rfl, _, rfl, ite2 (fun e3 => ?_) (fun e3 => ?_)⟩
        · rw [e3, Bool.true_and] at q
          exact ⟨_, rfl, _, _, rfl, rfl, q⟩
        · rw [Bool.not_eq_true _ |>.mp e3, Bool.false_and] at q
          exact q
      · rw [Bool.not_eq_true _ |>.mp e2, Bool.false_and] at q
        exact q
    · rw [Bool.not_eq_true _ |>.mp e1, Bool.false_and] at q
      exact ⟨_, rfl, iteF q⟩
end
end Ps
namespace Ps
open PySem PySem.Spec PyProof.Rows L2
section
variable {P : Program} {w : World} {K : PySem.W.Frag} {mg : Str → Option Value} {base : Heap}
def spMove (K : PySem.W.Frag) : Sp := fun vs H Q _ => ∃ (dx dy w h : Int) (a : Addr) (ns : List Int), vs = [.int dx, .int dy, .int w, .int h, .ref a] ∧ SqL K H a (ns.map V.int) ∧ (moveOk dx dy w h = true → ns.length = w.toNat * h.toNat) ∧
  ∀ H' p, H' p = some (.lst ((moveAns dx dy w h ns).map V.int)) → Q (.ref p) H'
abbrev nMove : List Str := ["dx", "dy", "w", "h", "f", "right", "down", "answer", "row", "column"]
theorem scMove : FnScope nMove ["dx", "dy", "w", "h", "f"] (defScope sMove) := ⟨rfl, rfl, rfl, by decide +kernel, rfl, by decide +kernel, by decide +kernel⟩
theorem ok_move {f fS fM fD fI : Addr} {fd fdS fdM fdD fdI : FuncData} {t1} (F : Fun K "sm_move" "sm_move" sMove f fd)
    (GS : FnOk P w K mg base CX0 1 fS fdS ["word"] spSigned) (gS : mg "signed" = some (.ref fS)) (kS : PySem.W.keepIn K (.ref fS) = true) (bS : Binds K fdS ["word"] [])
    (GM : FnOk P w K mg base CX0 2 fM fdM ["numbers"] (spRange K (-8192) 8192)) (gM : mg "all_moves" = some (.ref fM)) (kM : PySem.W.keepIn K (.ref fM) = true) (bM : Binds K fdM ["numbers"] [])
    (GD : FnOk P w K mg base CX0 2 fD fdD ["numbers"] (spRange K 1 64)) (gD : mg "all_sides" = some (.ref fD)) (kD : PySem.W.keepIn K (.ref fD) = true) (bD : Binds K fdD ["numbers"] [])
    (GI : FnOk P w K mg base CX0 1 fI fdI ["column", "row", "w", "h"] spInPic) (gI : mg "in_picture" = some (.ref fI)) (kI : PySem.W.keepIn K (.ref fI) = true) (bI : Binds K fdI ["column", "row", "w", "h"] [])
    (gR : mg "REFUSED" = some (.int (-2) t1)) (mR : mg "range" = none) : FnOk P w K mg base CX0 3 f fd ["dx", "dy", "w", "h", "f"] (spMove K) := by
  refine F.ok scMove (fun vs H Q E h => ?_) (fun cdv A outer s H vs Q E hr h => ?_)
  · obtain ⟨dx, dy, w, h, a, ns, rfl, _⟩ := h
    rfl
  · obtain ⟨dx, dy, w, h, a, ns, rfl, hS, hlen, q⟩ := h
    have hr1 : Room 1 _ := hr.mono (by decide)
    refine ⟨_, pss_cons (ps_set (i := 5) scMove.nd rfl (Or.inl rfl) (pe_call GS hr1 (by rfl) gS kS bS .nil pass0 (pa_cons (pv 0) pa_nil)))
      (pss_cons (ps_set (i := 6) scMove.nd rfl (Or.inl rfl) (pe_call GS hr1 (by rfl) gS kS bS .nil pass0 (pa_cons (pv 1) pa_nil)))
      (pss_cons (ps_if (pt_not (pw_and (pt_val (pe_call GM hr (by rfl) gM kM bM .nil pass0 (pa_cons (pe_lst (pa_cons (pv 5) (pa_cons (pv 6) pa_nil))) pa_nil)))
          (pw_and1 (pt_val (pe_call GD hr (by rfl) gD kD bD .nil pass0 (pa_cons (pe_lst (pa_cons (pv 2) (pa_cons (pv 3) pa_nil))) pa_nil))))).pt)
        (pss_one (ps_ret (pe_lst (pa_cons (pe_gi (by rfl) gR) pa_nil)))) pss_nil)
      (pss_cons (ps_set (i := 7) scMove.nd rfl (Or.inl rfl) (pe_lst (pa_cons pe_int pa_nil)))
      (pss_cons (ps_for PassesOwn.never rfl (pi_range1 rfl mR (pa_cons (pv 3) pa_nil)) (pg_name (i := 8) scMove.nd rfl (Or.inl rfl))
        (pss_one (ps_for PassesOwn.never rfl (pi_range1 rfl mR (pa_cons (pv 2) pa_nil)) (pg_name (i := 9) scMove.nd rfl (Or.inl rfl))
          (pss_one (ps_if (pt_val (pe_call GI hr1 (by rfl) gI kI bI .nil pass0 (pa_cons (pe_op op_sub (pv 9) (pv 5)) (pa_cons (pe_op op_sub (pv 8) (pv 6)) (pa_cons (pv 2) (pa_cons (pv 3) pa_nil))))))
            (pss_one (ps_expr (pe_bm PySem.F.plainAttrs_list PySem.F.slot_list_append PySem.F.type_list_append mt_append (pv 7)
              (pa_cons (pe_ix ix_list (pv 4) (pe_op op_sub (pe_op op_add (pe_op op_mul (pe_op op_sub (pv 8) (pv 6)) (pv 2)) (pv 9)) (pv 5)) (fun _ _ => rfl)) pa_nil))))
            (pss_one (ps_expr (pe_bm PySem.F.plainAttrs_list PySem.F.slot_list_append PySem.F.type_list_append mt_append (pv 7) (pa_cons pe_int pa_nil)))))))))
      (pss_one (ps_ret (pv 7))))))), ?_⟩
    -- right, down
    refine ⟨_, rfl, dx, rfl, _, rfl, dy, rfl, ?_⟩
    -- the ranges
    refine ⟨_, rfl, _, rfl, (by show 2 ≤ sizeLine; decide), fun p1 n1 => ?_⟩
    refine ⟨p1, [sg dx, sg dy], rfl, SqL.of upd_same, (by show 2 ≤ 1000; decide), fun H1 s1 => ⟨_, rfl, ?_⟩⟩
    have s1' : Same H H1 := (same_upd n1).trans s1
    have bad : ∀ H2 : Hp, moveOk dx dy w h = false → ∀ p, H2 p = none → Q (.ref p) (upd H2 p (.lst [V.int (-2)])) := fun H2 e p _ => by
      refine q _ p ?_
      unfold moveAns
      rw [e, if_neg Bool.false_ne_true]
      exact upd_same
    refine ite2 (fun e1 => ?_) (fun e1 => ?_)
    case refine_2 =>
      refine iteT ?_
      refine ⟨(by show 1 ≤ sizeLine; decide), bad H1 ?_⟩
      unfold moveOk movesOk
      rw [Bool.not_eq_true _ |>.mp e1]
      rfl
    refine ⟨_, rfl, _, rfl, (by show 2 ≤ sizeLine; decide), fun p2 n2 => ?_⟩
    refine ⟨p2, [w, h], rfl, SqL.of upd_same, (by show 2 ≤ 1000; decide), fun H2 s2 => ⟨_, rfl, ?_⟩⟩
    have s2' : Same H H2 := s1'.trans ((same_upd n2).trans s2)
    refine ite2 (fun e2 => ?_) (fun e2 => ?_)
    case refine_1 =>
      refine ⟨(by show 1 ≤ sizeLine; decide), bad H2 ?_⟩
      unfold moveOk movesOk sidesOk
      rw [e1, Bool.true_and]
      cases e3 : List.all [w, h] (inR 1 64) with
      | false => rfl
      | true =>
        rw [e3] at e2
        cases e2
    have e3 : sidesOk [w, h] = true := by
      unfold sidesOk
      cases e3 : List.all [w, h] (inR 1 64) with
      | false =>
        rw [e3] at e2
        exact absurd rfl e2
      | true => rfl
    have ok : moveOk dx dy w h = true := by
      unfold moveOk movesOk
      rw [e1, e3]
      rfl
    obtain ⟨bdx, bdy, bw, bh⟩ := moveOk_iff.mp ok
    have hl := hlen ok
    have fin : moveAns dx dy w h ns = 0 :: rows (moveG (sg dx) (sg dy) w h ns) w.toNat h.toNat := by
      unfold moveAns
      rw [if_pos ok]
    -- answer = [0]
    refine ⟨(by show 1 ≤ sizeLine; decide), fun p n3 => ?_⟩
    have np : H p = none := s2'.free n3
    have hw64 : w.toNat ≤ 64 := by omega
    have hh64 : h.toNat ≤ 64 := by omega
    refine ⟨_, rfl, h, rfl, by omega, by omega, for_range (lo := 0) (n := h.toNat) (fun i σ H' => ∃ x8 x9, σ = [some (.int dx), some (.int dy), some (.int w), some (.int h), some (.ref a), some (.int (sg dx)), some (.int (sg dy)), some (.ref p), x8, x9] ∧ Same H H' ∧ H' p = some (.lst ((0 :: rows (moveG (sg dx) (sg dy) w h ns) w.toNat i).map V.int))) ⟨none, none, rfl, same_put s2' np, upd_same⟩ ?_ ?_⟩
    · rintro i σ H' hi ⟨x8, x9, rfl, sm, hp⟩
      refine ⟨_, rfl, w, rfl, by omega, by omega, for_range (lo := 0) (n := w.toNat) (fun j σ H' => ∃ x9, σ = [some (.int dx), some (.int dy), some (.int w), some (.int h), some (.ref a), some (.int (sg dx)), some (.int (sg dy)), some (.ref p), some (.int (0 + (i : Int))), x9] ∧ Same H H' ∧ H' p = some (.lst ((0 :: (rows (moveG (sg dx) (sg dy) w h ns) w.toNat i ++ (List.range j).map fun c => moveG (sg dx) (sg dy) w h ns c i)).map V.int))) ⟨x9, rfl, sm, ?_⟩ ?_ ?_⟩
      · rw [hp]
        simp
      · rintro j σ H' hj ⟨x9, rfl, sm, hp⟩
        have hm : i * w.toNat ≤ 64 * 64 := Nat.mul_le_mul (by omega) hw64
        have room : ((0 :: (rows (moveG (sg dx) (sg dy) w h ns) w.toNat i ++ (List.range j).map fun c => moveG (sg dx) (sg dy) w h ns c i)).map V.int).length < sizeLine := by
          rw [List.length_map, List.length_cons, List.length_append, rows_length, List.length_map, List.length_range]
          exact line (by omega)
        have next : ∀ v : Int, v = moveG (sg dx) (sg dy) w h ns j i → (upd H' p (.lst (((0 :: (rows (moveG (sg dx) (sg dy) w h ns) w.toNat i ++ (List.range j).map fun c => moveG (sg dx) (sg dy) w h ns c i)).map V.int) ++ [V.int v]))) p = some (.lst ((0 :: (rows (moveG (sg dx) (sg dy) w h ns) w.toNat i ++ (List.range (j + 1)).map fun c => moveG (sg dx) (sg dy) w h ns c i)).map V.int)) := fun v e => by
          rw [upd_same, row_succ, e]
          simp
        refine ⟨_, rfl, _, rfl, _, _, rfl, rfl, _, rfl, _, rfl, _, _, rfl, rfl, _, rfl, _, rfl, (0 + (j : Int)) - sg dx, (0 + (i : Int)) - sg dy, w, h, rfl, _, rfl, ite2 (fun e => ?_) (fun e => ?_)⟩
        · have k : inPic ((j : Int) - sg dx) ((i : Int) - sg dy) w h = true := by
            rw [Int.zero_add, Int.zero_add] at e
            exact e
          have k' := inPic_iff.mp k
          have pl := place_lt k'.1 k'.2.1 k'.2.2.1 k'.2.2.2
          have e5 : ((w.toNat * h.toNat : Nat) : Int) = w * h := by
            rw [Int.natCast_mul, Int.toNat_of_nonneg (by omega), Int.toNat_of_nonneg (by omega)]
          refine ⟨_, rfl, .inl ⟨rfl, _, SqL.of hp⟩, _, rfl, _, rfl, _, rfl, _, _, rfl, rfl, _, rfl, _, _, rfl, rfl, .inr ⟨by omega, by omega⟩, _, rfl, _, _, rfl, rfl, _, rfl, _, _, rfl, rfl, a, ns.map V.int, _, V.int (moveG (sg dx) (sg dy) w h ns j i), rfl, rfl, sm.seq hS, ?_, p, _, _, rfl, rfl, hp, room, ?_⟩
          · refine at_of (j := (((i : Int) - sg dy) * w + ((j : Int) - sg dx)).toNat) ?_ ?_
            · rw [Int.toNat_of_nonneg pl.1, Int.zero_add, Int.zero_add]
              omega
            · unfold moveG
              rw [if_pos k, List.getElem?_map, list_at (by omega)]
              rfl
          · exact ⟨some (.int (0 + (j : Int))), rfl, same_put sm np, next _ rfl⟩
        · have k : ¬ inPic ((j : Int) - sg dx) ((i : Int) - sg dy) w h = true := by
            rw [Int.zero_add, Int.zero_add] at e
            exact e
          refine ⟨_, rfl, .inl ⟨rfl, _, SqL.of hp⟩, p, _, _, rfl, rfl, hp, room, ?_⟩
          refine ⟨some (.int (0 + (j : Int))), rfl, same_put sm np, next _ ?_⟩
          unfold moveG
          rw [if_neg k]
      · rintro σ H' ⟨x9, rfl, sm, hp⟩
        refine ⟨some (.int (0 + (i : Int))), x9, rfl, sm, ?_⟩
        rw [hp, rows_succ]
    · rintro σ H' ⟨x8, x9, rfl, sm, hp⟩
      refine ⟨_, rfl, q H' p ?_⟩
      rw [fin]
      exact hp
end
end Ps
/-! ### the end -/
namespace Ps
open PySem PySem.Spec PyProof.Rows L2
theorem all_mk {P : Program} {w : World} {K : PySem.W.Frag} {h : Heap} {mg : Str → Option Value} {fa f1 f2 f3 f4 f5 f6 : Addr} (X : K.In h) (G : h.Ns mainGlobals mg) (hfa : mg "sm_move" = some (.ref fa)) {tA tB tC tD tE}
    {od1 an1 od2 an2 od3 an3 od4 an4 od5 an5 od6 an6 : Option Addr} {sl1 sl2 sl3 sl4 sl5 sl6 : Array (Option Value)} {oc1 kV1 dc1 pm1 cd1 ct1 oc2 kV2 dc2 pm2 cd2 ct2 oc3 kV3 dc3 pm3 cd3 ct3 oc4 kV4 dc4 pm4 cd4 ct4 oc5 kV5 dc5 pm5 cd5 ct5 oc6 kV6 dc6 pm6 cd6 ct6 : Value}
    (a1 : PySem.W.nsIn K mainGlobals "signed" = some (some (.ref f1))) (l1 : K.lookup f1 = some ⟨oc1, od1, .func (PySem.W.fnOf "signed" "signed" (defArgs sSigned) (defBody sSigned) (defScope sSigned) .none kV1 dc1 pm1 an1 cd1 ct1), sl1⟩) (c1 : PySem.W.codeIn K cd1 "signed" = true) (k1 : PySem.W.keepIn K (.ref f1) = true)
    (a2 : PySem.W.nsIn K mainGlobals "all_within" = some (some (.ref f2))) (l2 : K.lookup f2 = some ⟨oc2, od2, .func (PySem.W.fnOf "all_within" "all_within" (defArgs sWithin) (defBody sWithin) (defScope sWithin) .none kV2 dc2 pm2 an2 cd2 ct2), sl2⟩) (c2 : PySem.W.codeIn K cd2 "all_within" = true) (k2 : PySem.W.keepIn K (.ref f2) = true)
    (a3 : PySem.W.nsIn K mainGlobals "all_moves" = some (some (.ref f3))) (l3 : K.lookup f3 = some ⟨oc3, od3, .func (PySem.W.fnOf "all_moves" "all_moves" (defArgs sMoves) (defBody sMoves) (defScope sMoves) .none kV3 dc3 pm3 an3 cd3 ct3), sl3⟩) (c3 : PySem.W.codeIn K cd3 "all_moves" = true) (k3 : PySem.W.keepIn K (.ref f3) = true)
    (a4 : PySem.W.nsIn K mainGlobals "all_sides" = some (some (.ref f4))) (l4 : K.lookup f4 = some ⟨oc4, od4, .func (PySem.W.fnOf "all_sides" "all_sides" (defArgs sSides) (defBody sSides) (defScope sSides) .none kV4 dc4 pm4 an4 cd4 ct4), sl4⟩) (c4 : PySem.W.codeIn K cd4 "all_sides" = true) (k4 : PySem.W.keepIn K (.ref f4) = true)
    (a5 : PySem.W.nsIn K mainGlobals "in_picture" = some (some (.ref f5))) (l5 : K.lookup f5 = some ⟨oc5, od5, .func (PySem.W.fnOf "in_picture" "in_picture" (defArgs sInPic) (defBody sInPic) (defScope sInPic) .none kV5 dc5 pm5 an5 cd5 ct5), sl5⟩) (c5 : PySem.W.codeIn K cd5 "in_picture" = true) (k5 : PySem.W.keepIn K (.ref f5) = true)
    (a6 : PySem.W.nsIn K mainGlobals "sm_move" = some (some (.ref f6))) (l6 : K.lookup f6 = some ⟨oc6, od6, .func (PySem.W.fnOf "sm_move" "sm_move" (defArgs sMove) (defBody sMove) (defScope sMove) .none kV6 dc6 pm6 an6 cd6 ct6), sl6⟩) (c6 : PySem.W.codeIn K cd6 "sm_move" = true) (k6 : PySem.W.keepIn K (.ref f6) = true)
    (gA : PySem.W.nsIn K mainGlobals "REFUSED" = some (some (.int (-2) tA))) (gB : PySem.W.nsIn K mainGlobals "WORD" = some (some (.int 4294967296 tB))) (gC : PySem.W.nsIn K mainGlobals "HALF_WORD" = some (some (.int 2147483648 tC)))
    (gD : PySem.W.nsIn K mainGlobals "MOVE_MOST" = some (some (.int 8192 tD))) (gE : PySem.W.nsIn K mainGlobals "SIDE_MOST" = some (some (.int 64 tE)))
    (z1 : PySem.W.nsIn K mainGlobals "all" = some none) (z2 : PySem.W.nsIn K mainGlobals "range" = some none) :
    ∃ fd : FuncData, (∀ (s : Shared) (us : List Value), us.length = (["dx", "dy", "w", "h", "f"] : List Str).length → BindsTo s fd ⟨us, []⟩ ((["dx", "dy", "w", "h", "f"] : List Str).zip us)) ∧ ∀ base : Heap, K.In base → base.Ns mainGlobals mg → FnOk P w K mg base CX0 3 fa fd ["dx", "dy", "w", "h", "f"] (spMove K) := by
  have e := hfa.symm.trans (PySem.W.mg_of X G a6)
  cases e
  have F1 := fun_mk (st := sSigned) l1 c1 k1
  have F2 := fun_mk (st := sWithin) l2 c2 k2
  have F3 := fun_mk (st := sMoves) l3 c3 k3
  have F4 := fun_mk (st := sSides) l4 c4 k4
  have F5 := fun_mk (st := sInPic) l5 c5 k5
  have F6 := fun_mk (st := sMove) l6 c6 k6
  have b1 := F1.binds (ps := ["word"]) fun _ _ _ _ _ _ us hl => match us, hl with | [_], _ => rfl
  have b2 := F2.binds (ps := ["numbers", "least", "most"]) fun _ _ _ _ _ _ us hl => match us, hl with | [_, _, _], _ => rfl
  have b3 := F3.binds (ps := ["numbers"]) fun _ _ _ _ _ _ us hl => match us, hl with | [_], _ => rfl
  have b4 := F4.binds (ps := ["numbers"]) fun _ _ _ _ _ _ us hl => match us, hl with | [_], _ => rfl
  have b5 := F5.binds (ps := ["column", "row", "w", "h"]) fun _ _ _ _ _ _ us hl => match us, hl with | [_, _, _, _], _ => rfl
  have g2 := PySem.W.mg_of X G a2
  have mA := PySem.W.mg_none_of X G z1
  exact ⟨PySem.W.fnOf "sm_move" "sm_move" (defArgs sMove) (defBody sMove) (defScope sMove) .none kV6 dc6 pm6 an6 cd6 ct6, fun s us hu => match us, hu with | [_, _, _, _, _], _ => .of_eq rfl, fun base _ _ =>
    ok_move F6 (ok_signed F1 (PySem.W.mg_of X G gC) (PySem.W.mg_of X G gB)) (PySem.W.mg_of X G a1) k1 b1 (ok_moves F3 F2 b2 g2 mA (PySem.W.mg_of X G gD)) (PySem.W.mg_of X G a3) k3 b3
      (ok_sides F4 F2 b2 g2 mA (PySem.W.mg_of X G gE)) (PySem.W.mg_of X G a4) k4 b4 (ok_inpic F5) (PySem.W.mg_of X G a5) k5 b5 (PySem.W.mg_of X G gA) (PySem.W.mg_none_of X G z2)⟩
end Ps
open PySem PySem.W PyProof.Rows
set_option maxRecDepth 100000 in
set_option maxHeartbeats 8000000 in
theorem PySem.Challenge.cw_picturestack_s02_sm_move_holds : PySem.Challenge.rw_picturestack_s02_sm_move.Holds := by
  w_on; k_headS; (case hw => exact ⟨[.int 0, .int 0, .int 0, .int 0, .list []], by decide +kernel, by decide +kernel⟩)
  k_fillS
  refine L2.walk_specK (r := PySem.Challenge.rw_picturestack_s02_sm_move) (k := 3) (CX := L2.CX0) (ps := ["dx", "dy", "w", "h", "f"]) (sp := Ps.spMove) (by decide +kernel) rfl rfl ⟨rfl, by decide, by decide⟩ (fun w h Y => PySem.W.kIn_of Y) ?F ?S (fun _ _ _ _ z => z)
  case F =>
    intro w mg fa h Y KX G hmg
    refine' Ps.all_mk KX G hmg ?a1 ?l1 ?c1 ?k1 ?a2 ?l2 ?c2 ?k2 ?a3 ?l3 ?c3 ?k3 ?a4 ?l4 ?c4 ?k4 ?a5 ?l5 ?c5 ?k5 ?a6 ?l6 ?c6 ?k6 ?gA ?gB ?gC ?gD ?gE ?z1 ?z2
    (case a1 => k_is); (case l1 => k_is); (case c1 => k_is); (case k1 => k_is)
    (case a2 => k_is); (case l2 => k_is); (case c2 => k_is); (case k2 => k_is)
    (case a3 => k_is); (case l3 => k_is); (case c3 => k_is); (case k3 => k_is)
    (case a4 => k_is); (case l4 => k_is); (case c4 => k_is); (case k4 => k_is)
    (case a5 => k_is); (case l5 => k_is); (case c5 => k_is); (case k5 => k_is)
    (case a6 => k_is); (case l6 => k_is); (case c6 => k_is); (case k6 => k_is)
    (case gA => k_is); (case gB => k_is); (case gC => k_is); (case gD => k_is); (case gE => k_is); (case z1 => k_is); (case z2 => k_is)
  case S =>
    intro K H xs a hO hwi hask hx
    obtain ⟨dx, dy, ww, hh, ns, u⟩ := a
    cases hx with
    | cons h1 hx =>
    cases hx with
    | cons h2 hx =>
    cases hx with
    | cons h3 hx =>
    cases hx with
    | cons h4 hx =>
    cases hx with
    | cons h5 hx =>
    cases hx
    cases h1
    cases h2
    cases h3
    cases h4
    cases h5 with
    | lst hs ha =>
      have e := L2.ints_dw ns _ ha
      subst e
      have q : (Codec.inInt 0 4294967295 dx && (Codec.inInt 0 4294967295 dy && (Codec.inInt 0 4294967295 ww && (Codec.inInt 0 4294967295 hh && ((Codec.inLen 0 5000 ns && ns.all (Codec.inInt 0 65535)) && true))))) = true := hwi
      simp only [Bool.and_eq_true] at q
      obtain ⟨q1, q2, q3, q4, ⟨q5, q6⟩, _⟩ := q
      have r1 := (Codec.inInt_iff.mp q1).1
      have r2 := (Codec.inInt_iff.mp q2).1
      have r3 := (Codec.inInt_iff.mp q3).1
      have r4 := (Codec.inInt_iff.mp q4).1
      have r6 : ∀ n ∈ ns, 0 ≤ n := fun n hn => (Codec.inInt_iff.mp (List.all_eq_true.mp q6 n hn)).1
      have hask' : PySh69.sm_move_asked dx dy ww hh ns = true := hask
      refine ⟨dx, dy, ww, hh, _, ns, rfl, hs, fun k => Ps.move_len r1 r2 r3 r4 hask' k, fun H' p hp => ?_⟩
      show L2.Dw K H' (.ref p) (WData.list ((PySh69.sm_move dx dy ww hh ns).map WData.int))
      rw [Ps.move_is r1 r2 r3 r4 r6]
      exact .lst (L2.SqL.of hp) (L2.dw_ints _)
#print axioms PySem.Challenge.cw_picturestack_s02_sm_move_holds
