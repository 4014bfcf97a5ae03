import Derived.Test.YtjlfacmmokfleaaBtRefs
import Derived.Test.YtjlfacmmokfleaaMemOpen
import Derived.Lib.SmallJoins
import Derived.Deep.Slices
import Derived.Deep.Fields
import Derived.Test.YtjlfacmmokfleaaBtPut
import Derived.Test.YtjlfacmmokfleaaBtCheck
import Derived.Test.YtjlfacmmokfleaaBtTells
import Derived.Test.YtjlfacmmokfleaaBtUser
/- Acts on trees as they come in: a slice of them, and one by value. -/
namespace Go.Proofs.Ytjlfacmmokfleaa.Bt
open Go.RowKit Go.Proofs.Ytjlfacmmokfleaa.Mem Go.Proofs.Ytjlfacmmokfleaa.Right Go.ChangeShapes Go.WideShapes Go.Joins Go.Deep
set_option linter.unusedVariables false

/-- A slice of acts that came in. -/
def Acts (w : World) (P : Option Addr) (acs : List Ab) : Prop :=
  ∀ k a, acs[k]? = some a → (∃ b o, P = some ⟨b, o, none⟩ ∧ b < w.heap.size ∧ w.cell? ⟨b, o + k * 3, none⟩ = some (.int .i64 a.d) ∧ w.cell? ⟨b, o + k * 3 + 1, none⟩ = some (.slice a.A a.n a.c) ∧ w.cell? ⟨b, o + k * 3 + 2, none⟩ = some (.int .i64 a.x)) ∧ AbOk w a
section
variable {H : Type} {enc : TypeId × Value → H} {W : World}
set_option maxRecDepth 100000 in
theorem act_cells {m : Nat} {cs : List Value} {x : DataW H × List MemPlace} (h : DataW.trod enc Try.prog W 0 (fun _ => true) true m tA cs = some x) (hlen : cs.length = 3) :
    ∃ a : Ab, cs = [.int .i64 a.d, .slice a.A a.n a.c, .int .i64 a.x] ∧ AbOk W a := by
  obtain ⟨xs, k', _, _, _, hxl, hfd⟩ := DataW.trod_struct Try.underlying32 h
  match xs, hxl, cs, hlen with
  | [y0, y1, y2], _, [v0, v1, v2], _ =>
    have hci : Try.prog.cellsOf 3 = 1 := by kernel_rfl
    have hcb : Try.prog.cellsOf 30 = 1 := by kernel_rfl
    have hcu : Try.prog.cellsOf 5 = 1 := by kernel_rfl
    have t0 : DataW.trod enc Try.prog W 0 (fun _ => true) true k' 3 [v0] = some y0 := by
      have := hfd 0 _ rfl
      simpa [hci] using this
    have t1 : DataW.trod enc Try.prog W 0 (fun _ => true) true k' 30 [v1] = some y1 := by
      have := hfd 1 _ rfl
      simpa [hcb, hci] using this
    have t2 : DataW.trod enc Try.prog W 0 (fun _ => true) true k' 3 [v2] = some y2 := by
      have := hfd 2 _ rfl
      simpa [hci, hcb] using this
    obtain ⟨a0, e0, _, _⟩ := DataW.trod_int Try.underlying3 t0
    obtain ⟨a2, e2, _, w2⟩ := DataW.trod_int Try.underlying3 t2
    obtain ⟨A4, n4, c4, e4⟩ := Joins.slice_form Try.underlying30 t1
    simp at e0 e2 e4
    subst e0 e2 e4
    have hc4 : A4 = none → c4 = 0 := fun e => by
      rcases open_ints Try.underlying30 Try.underlying5 hcu t1 with ⟨hcs, _⟩ | ⟨a, l, c', zs, hcs, _, hl, hm, _⟩
      · simp at hcs
        exact hcs.2.2
      · simp at hcs
        rw [e] at hcs
        cases hcs.1
    obtain ⟨l4, hl4⟩ := Mem.open_bytes Try.underlying30 Try.underlying5 (by kernel_rfl) (show DataW.Trod enc Try.prog W 0 (fun _ => true) true 30 (.slice A4 n4 c4) y1.1 y1.2 from ⟨k', by simpa [Value.cells] using t1⟩)
    exact ⟨⟨a0, A4, n4, c4, l4, a2⟩, rfl, hl4, hc4, (bounds_i64 w2).1⟩
theorem open_acts {A : Option Addr} {n c : Nat} {d : DataW H} {p : List MemPlace} (h : DataW.Trod enc Try.prog W 0 (fun _ => true) true 22 (.slice A n c) d p) :
    ∃ acs : List Ab, acs.length = n ∧ n ≤ 9223372036854775807 ∧ Acts W A acs := by
  obtain ⟨fuel, hf⟩ := h
  rcases open_slice Try.underlying22 hf with ⟨hcs, _⟩ | ⟨a, l, c', m, k, D, Pl, hcs, _, hl, hm, hmm, _, hx⟩
  · simp [Value.cells] at hcs
    obtain ⟨rfl, rfl, rfl⟩ := hcs
    exact ⟨[], rfl, by omega, fun k a h => by simp at h⟩
  · simp [Value.cells] at hcs
    obtain ⟨rfl, rfl, rfl⟩ := hcs
    have hC : Try.prog.cellsOf 32 = 3 := by kernel_rfl
    have each : ∀ i, i < n → ∃ v : Ab, (W.cell? (a.add (i * 3)) = some (.int .i64 v.d) ∧ W.cell? (a.add (i * 3 + 1)) = some (.slice v.A v.n v.c) ∧ W.cell? (a.add (i * 3 + 2)) = some (.int .i64 v.x)) ∧ AbOk W v := by
      intro i hi
      obtain ⟨cs', h1, h2⟩ := hx i (by rw [hmm]; simp; omega)
      rw [hC] at h1
      obtain ⟨_, hlen, hcell⟩ := World.cells?_some h1
      obtain ⟨v, rfl, hv⟩ := act_cells h2 hlen
      have c0 := hcell 0 (by omega)
      have c1 := hcell 1 (by omega)
      have c2 := hcell 2 (by omega)
      rw [add_add] at c0 c1 c2
      exact ⟨v, ⟨by simpa using c0, by simpa using c1, by simpa using c2⟩, hv⟩
    obtain ⟨q, hq⟩ := choose_lt each
    unfold maxLen at hm
    refine ⟨(List.range n).map q, by simp, by omega, ?_⟩
    intro j v hj
    rw [List.getElem?_map] at hj
    obtain ⟨i, hi, rfl⟩ := Option.map_eq_some_iff.1 hj
    obtain ⟨hjn, hi'⟩ := List.getElem?_eq_some_iff.1 hi
    simp at hjn hi'
    subst hi'
    obtain ⟨⟨c0, c1, c2⟩, hb⟩ := hq j hjn
    obtain ⟨b, o, s⟩ := a
    have hs : s = none := by simpa [Addr.add] using World.cell?_spot (hq 0 (by omega)).1.1
    subst hs
    rw [add_plain] at c0 c1 c2
    exact ⟨⟨b, o, rfl, cell_block c0, c0, c1, c2⟩, hb⟩
set_option maxRecDepth 100000 in
theorem open_act {r : Reach} {b0 : Nat} {v : Value} {d : DataW H} {p : List MemPlace} (hv : Value.okWide Try.prog W r b0 32 v) (h : DataW.Trod enc Try.prog W 0 (fun _ => true) true 32 v d p) :
    ∃ a : Ab, v = abv a ∧ AbOk W a := by
  obtain ⟨cs, rfl, hsz⟩ := okWide_struct Try.underlying32 hv
  have hC : Try.prog.cellsOf 32 = 3 := by kernel_rfl
  obtain ⟨fuel, hf⟩ := h
  obtain ⟨a, ha, hk⟩ := act_cells hf (by simpa [Value.cells] using hsz.trans hC)
  refine ⟨a, ?_, hk⟩
  have e : cs.toList = [Value.int .i64 a.d, .slice a.A a.n a.c, .int .i64 a.x] := ha
  rw [show cs = cs.toList.toArray from rfl, e]
end
theorem Acts.below {w w' : World} {P : Option Addr} {acs : List Ab} (h : Acts w P acs) (hb : Below w.heap.size w w') : Acts w' P acs := fun k a ha => by
  obtain ⟨⟨b, o, e, hlt, c0, c1, c2⟩, hl⟩ := h k a ha
  exact ⟨⟨b, o, e, Nat.lt_of_lt_of_le hlt hb.size, (hb.cell (p := ⟨b, _, none⟩) hlt).trans c0, (hb.cell (p := ⟨b, _, none⟩) hlt).trans c1, (hb.cell (p := ⟨b, _, none⟩) hlt).trans c2⟩, hl.below hb⟩
/-- The cells of the act that is looked at, in every world grown out of this one. -/
theorem Acts.one {w : World} {P : Option Addr} {acs : List Ab} (h : Acts w P acs) {k : Nat} (hk : k < acs.length) : ∃ (b o : Nat) (a : Ab), P = some ⟨b, o, none⟩ ∧ AbOk w a ∧ ∀ W, Below w.heap.size w W → W.cell? ⟨b, o + k * 3, none⟩ = some (.int .i64 a.d) ∧ W.cell? ⟨b, o + k * 3 + 1, none⟩ = some (.slice a.A a.n a.c) ∧ W.cell? ⟨b, o + k * 3 + 2, none⟩ = some (.int .i64 a.x) := by
  obtain ⟨⟨b, o, e, hlt, c0, c1, c2⟩, hb⟩ := h k acs[k] (List.getElem?_eq_getElem hk)
  exact ⟨b, o, acs[k], e, hb, fun W hW => ⟨(hW.cell (p := ⟨b, _, none⟩) hlt).trans c0, (hW.cell (p := ⟨b, _, none⟩) hlt).trans c1, (hW.cell (p := ⟨b, _, none⟩) hlt).trans c2⟩⟩
end Go.Proofs.Ytjlfacmmokfleaa.Bt
/- Are the pairs handed out the document's. -/
namespace Go.Proofs.Ytjlfacmmokfleaa.Bt
open Go.RowKit Go.Proofs.Ytjlfacmmokfleaa.Mem Go.Proofs.Ytjlfacmmokfleaa.Right
set_option linter.unusedVariables false

theorem own_pair {w : World} {B n : Nat} {e : TypeId} {A : Option Addr} {cA : Nat} {L : List Pr} (h : w.ownsRow B e 2 (.slice A n cA) n (cellsP L)) {k : Nat} {r : Pr} (hk : L[k]? = some r) :
    ∃ g, A = some ⟨g, 0, none⟩ ∧ ∀ W, Below w.heap.size w W → W.cell? ⟨g, k * 2, none⟩ = some (.slice r.a r.key.length r.c) ∧ W.cell? ⟨g, k * 2 + 1, none⟩ = some (.int .i64 r.num) := by
  obtain ⟨e1, e2⟩ := cellsP_at hk
  obtain ⟨g, c, e, hg, hc, _⟩ := cell_own h e1
  obtain ⟨g2, c2, e', _, hc2, _⟩ := cell_own h e2
  injection e with ea _ _
  injection e' with ea' _ _
  rw [ea] at ea'
  injection ea' with ea'
  injection ea' with ea'
  subst ea'
  exact ⟨g, ea, fun W hW => ⟨(hW.cell (p := ⟨g, k * 2, none⟩) hg).trans hc, (hW.cell (p := ⟨g, k * 2 + 1, none⟩) hg).trans hc2⟩⟩
set_option maxHeartbeats 4000000 in
theorem same_t (w : World) (n b1 b2 : Nat) (A C : Option Addr) (cA cC : Nat) (s L : List Pr) (h1 : w.ownsRow b1 tP 2 (.slice A n cA) n (cellsP s)) (h2 : w.ownsRow b2 tRP 2 (.slice C n cC) n (cellsP L)) (k1 : ∀ r ∈ s, KeyA w r) (k2 : ∀ r ∈ L, KeyA w r) (hs : s.map Pr.k = L.map Pr.k) (hl : s.length = n) (hn : n ≤ 100000) :
    Calls Try.prog 13 #[.slice A n cA, .slice C n cC] w fun e w' => e = .returned (.bool true) ∧ Below w.heap.size w w' := by
  have hl2 : L.length = n := by have := congrArg List.length hs; simp at this; omega
  have H1 := Lib.hid h1
  have H2 := Lib.hid h2
  have K1 := Lib.hid k1
  have K2 := Lib.hid k2
  have HS := Lib.hid hs
  have HL := Lib.hid (show s.length = n ∧ L.length = n from ⟨hl, hl2⟩)
  have t0 : ((n : Int) != (n : Int)) = false := by simp
  clear h1 h2 k1 k2 hs hl hl2
  go_enter Try.func13, Try.ntmps13
  go_upto_region 4 with (fail)
  go_loopw [5] (fun i wr => ∃ k : Nat, k ≤ n ∧ i = .int .i64 (k : Int) ∧ Hid (Below w.heap.size w wr)) (fun i _ => n - (intOf i).toNat)
  case atStart => exact ⟨0, Nat.zero_le _, rfl, Lib.hid (Below.refl _ _)⟩
  case round =>
    obtain ⟨k, hk, rfl, HB⟩ := hrel
    by_cases hlt : k < n
    · obtain ⟨r, hr⟩ : ∃ r, s[k]? = some r := ⟨_, List.getElem?_eq_getElem (by have := HL.out.1; omega)⟩
      obtain ⟨q, hq⟩ : ∃ q, L[k]? = some q := ⟨_, List.getElem?_eq_getElem (by have := HL.out.2; omega)⟩
      have hrq : r.k = q.k := by
        have := congrArg (fun l => l[k]?) HS.out
        simp only [List.getElem?_map, hr, hq, Option.map_some] at this
        injection this
      have hkey : r.key = q.key := congrArg Prod.fst hrq
      have hnum : r.num = q.num := congrArg Prod.snd hrq
      obtain ⟨g1, rfl, c1⟩ := own_pair H1.out hr
      obtain ⟨g2, rfl, c2⟩ := own_pair H2.out hq
      have HK := Lib.hid (show ∀ W, Below w.heap.size w W → (W.cell? ⟨g1, k * 2, none⟩ = some (.slice r.a r.key.length r.c) ∧ W.cell? ⟨g1, k * 2 + 1, none⟩ = some (.int .i64 r.num)) ∧ W.cell? ⟨g2, k * 2, none⟩ = some (.slice q.a q.key.length q.c) ∧ W.cell? ⟨g2, k * 2 + 1, none⟩ = some (.int .i64 r.num) from fun W hW => ⟨c1 W hW, by rw [hnum]; exact c2 W hW⟩)
      have HSM := Lib.hid (fun W' (hW : Below w.heap.size w W') => Refs.same_in r.a q.a r.key.length q.key.length r.c q.c r.key q.key true (decide_eq_true hkey) w W' (K1.out r (List.mem_of_getElem? hr)) (K2.out q (List.mem_of_getElem? hq)) hW)
      have t1 : (k : Int) < (n : Int) := by omega
      have t2 : (r.num != r.num) = false := by simp
      have hb9 := HB.out
      clear hr hq hrq hkey hnum c1 c2
      go_upto_region 6 with (fail)
      refine wp_region_quiet (C := fun w' => Below w.heap.size w w') (by kernel_rfl) (by kernel_rfl) hb9.drew ?_
      repeat (first | go_big_quiet_skip | (refine BigFrame.wpQuiet_want rfl (fun K hK => ?_); refine quietC_val ?_; apply Exists.intro; refine ⟨fun W hW => ?_, hK _ ?_⟩; (focus (obtain ⟨⟨q0, q1⟩, q2, q3⟩ := HK.out W hW; go_simp; first | done | rfl)); clear hK K; simp only [Act.put, List.setIfInBounds_toArray, List.set_cons_zero, List.set_cons_succ]) | (quiet_step ((intro hW; first | (go_at_call 30; exact HSM.out _ hW)))))
      refine wpQuiet_nil ?_
      intro W9 hw9
      have HW9 := Lib.hid hw9
      clear hw9
      go_wp2
      go_roundw
      case rel => exact ⟨k + 1, by omega, by go_num, HW9⟩
      case measure => simp [intOf]; omega
    · have hkn : k = n := by omega
      subst hkn
      go_wp2
      go_ret
      exact ⟨rfl, HB.out⟩
end Go.Proofs.Ytjlfacmmokfleaa.Bt
/- The law's own example: nine pairs make a tree of two storeys. -/
namespace Go.Proofs.Ytjlfacmmokfleaa.Bt
open Go.RowKit Go.Proofs.Ytjlfacmmokfleaa.Mem Go.Proofs.Ytjlfacmmokfleaa.Right
set_option linter.unusedVariables false

theorem bs_one (w : World) (b : UInt8) (z : Int) (hz : z = (b.toNat : Int)) : Bs (w.alloc (.cells #[.int .u8 z] 5)) (some ⟨w.heap.size, 0, none⟩) 1 1 [b] := by
  subst hz
  have hc := Cel.new w 5 #[.int .u8 (b.toNat : Int)] rfl
  refine ⟨fun k u hu => ⟨w.heap.size, 0, rfl, by simp, ?_⟩, rfl, Nat.le_refl _, by decide⟩
  match k with
  | 0 => simp [bys] at hu; subst hu; exact hc.at_ 0
  | k + 1 => simp [bys] at hu
/-- The first so many of the example's pairs are there. -/
def Nine (L : List Pr) (i : Nat) : Prop := L.length = i ∧ (∀ y ∈ L, ∃ j, j < i ∧ y.k = ([UInt8.ofNat j], 1)) ∧ ∀ j, j < i → ∃ y ∈ L, y.k = ([UInt8.ofNat j], 1)
theorem Nine.more {L : List Pr} {i : Nat} {r : Pr} (h : Nine L i) (hr : r.k = ([UInt8.ofNat i], 1)) : Nine (lo ([UInt8.ofNat i], 1) L ++ r :: hi ([UInt8.ofNat i], 1) L) (i + 1) := by
  have e := lo_hi ([UInt8.ofNat i], 1) L
  have hm : ∀ y, y ∈ lo ([UInt8.ofNat i], 1) L ++ r :: hi ([UInt8.ofNat i], 1) L ↔ y = r ∨ y ∈ L := fun y => by
    conv => rhs; rw [← e]
    simp [or_left_comm]
  refine ⟨?_, fun y hy => ?_, fun j hj => ?_⟩
  · have := congrArg List.length e
    simp at this ⊢
    have := h.1; omega
  · rcases (hm y).1 hy with rfl | hy
    · exact ⟨i, by omega, hr⟩
    · obtain ⟨j, h1, h2⟩ := h.2.1 y hy
      exact ⟨j, by omega, h2⟩
  · by_cases e2 : j = i
    · subst e2; exact ⟨r, (hm r).2 (.inl rfl), hr⟩
    · obtain ⟨y, h1, h2⟩ := h.2.2 j (by omega)
      exact ⟨y, (hm y).2 (.inr h1), h2⟩
theorem nine_no {L : List Pr} {i : Nat} (hS : Sorted L) (h : Nine L i) (hi : i < 9) : (!has ([UInt8.ofNat i], 1) L) = true := by
  cases e : has ([UInt8.ofNat i], 1) L with
  | false => rfl
  | true =>
    obtain ⟨y, hy, e2⟩ := (has_iff hS).1 e
    obtain ⟨j, hj, e3⟩ := h.2.1 y hy
    rw [e2] at e3
    have e4 : UInt8.ofNat i = UInt8.ofNat j := by simpa using congrArg Prod.fst e3
    have := congrArg UInt8.toNat e4
    simp at this
    omega
theorem nine_has {L : List Pr} (hS : Sorted L) (h : Nine L 9) : has ([3], 1) L = true ∧ has ([3], 2) L = false := by
  refine ⟨(has_iff hS).2 (h.2.2 3 (by decide)), ?_⟩
  cases e : has ([3], 2) L with
  | false => rfl
  | true =>
    obtain ⟨y, hy, e2⟩ := (has_iff hS).1 e
    obtain ⟨j, hj, e3⟩ := h.2.1 y hy
    rw [e2] at e3
    have := congrArg Prod.snd e3
    simp at this
theorem nine_deep {L : List Pr} {n : Nat} (h : Nine L 9) (hd : Deep L n) : n = 2 := by
  rcases hd with ⟨rfl, _⟩ | ⟨_, d, rfl, h1, h2⟩
  · have := h.1; simp at this
  · rw [h.1] at h1 h2
    match d with
    | 0 => simp at h2
    | 1 => rfl
    | d + 2 =>
      have := h1 (by omega)
      have h3 : 1 ≤ 4 ^ d := Nat.one_le_pow _ _ (by decide)
      rw [Nat.pow_succ, Nat.pow_succ] at this
      omega
set_option maxHeartbeats 4000000 in
theorem works_t (w : World) : Calls Try.prog 9 #[] w fun e w' => e = .returned (.bool true) ∧ Below w.heap.size w w' := by
  go_enter Try.func9, Try.ntmps9
  go_upto_region 2 with (go_at_call 7; (with_reducible refine (new_t w).mono ?_); rintro e w1 ⟨tb, rfl, hbt, hb1⟩; have HBT := Lib.hid hbt; have HB1 := Lib.hid hb1; clear hbt hb1)
  go_upto_region 3 with (fail)
  go_loopw [2] (fun i wr => ∃ (k : Nat) (L : List Pr), k ≤ 9 ∧ i = .int .i64 (k : Int) ∧ Hid (BT wr w.heap.size tb [] L ∧ Nine L k ∧ Below w.heap.size w wr)) (fun i _ => 9 - (intOf i).toNat)
  case atStart => exact ⟨0, [], by omega, rfl, Lib.hid ⟨HBT.out, ⟨rfl, by simp, fun j hj => by omega⟩, HB1.out⟩⟩
  case round =>
    clear HBT HB1
    obtain ⟨k, L, hk, rfl, HR⟩ := hrel
    obtain ⟨h1, h2, h3⟩ := HR.out
    by_cases hlt : k < 9
    · have t1 : (k : Int) < 9 := by omega
      have t2 : IntKind.u8.wrap (k : Int) = (k : Int) := by rw [IntKind.wrap_u8]; omega
      have hal := al (Below.refl wr.heap.size wr) (.cells #[.int .u8 (k : Int)] 5)
      have HPU := Lib.hid (put_t (wr.alloc (.cells #[.int .u8 (k : Int)] 5)) w.heap.size tb [] L _ 1 1 [UInt8.ofNat k] 1 true (h1.below hal) (bs_one wr (UInt8.ofNat k) k (by simp; omega)) (fun e => by cases e) (by decide) (by have := h2.1; omega) (nine_no h1.sorted h2 hlt))
      have HAL := Lib.hid (Mem.on h3 hal)
      clear h1 h2 h3 hal
      go_wp2_with (go_at_call 20; (with_reducible refine HPU.out.mono ?_); rintro e w3 ⟨rfl, k1, _, k3⟩; have HK1 := Lib.hid k1; have HK3 := Lib.hid (k3 rfl); clear k1 k3)
      go_roundw
      case rel =>
        obtain ⟨r, hr, _, hbt⟩ := HK3.out
        exact ⟨k + 1, _, by omega, by go_num, Lib.hid ⟨hbt, HR.out.2.1.more hr, HAL.out.trans HK1.out.below⟩⟩
      case measure => simp [intOf]; omega
    · obtain rfl : k = 9 := by omega
      have t1 : ¬ ((9 : Nat) : Int) < 9 := by omega
      obtain ⟨n3, n4⟩ := nine_has h1.sorted h2
      have HDP := Lib.hid (show ∀ W, Below wr.heap.size wr W → Calls Try.prog 16 #[.pointer (some ⟨tb, 0, none⟩)] W fun e w' => e = .returned (.int .i64 2) ∧ w' = W from fun W hW => (depth_t W _ tb [] L (h1.below hW) (by have := h2.1; omega)).mono fun e w' ⟨n, e1, e2, e3⟩ => ⟨by rw [e1, nine_deep h2 e2]; rfl, e3⟩)
      have HLN := Lib.hid (show ∀ W, Below wr.heap.size wr W → Calls Try.prog 11 #[.pointer (some ⟨tb, 0, none⟩)] W fun e w' => e = .returned (.int .i64 9) ∧ w' = W from fun W hW => len_t W _ tb 9 [] L (h1.below hW) h2.1)
      have HCH := Lib.hid (show ∀ W, Below wr.heap.size wr W → Calls Try.prog 12 #[.pointer (some ⟨tb, 0, none⟩)] W fun e w' => e = .returned (.bool true) ∧ Below wr.heap.size wr w' from fun W hW => (check_t W _ tb 9 [] L (h1.below hW) h2.1 (by decide)).mono fun e w' ⟨e1, e2⟩ => ⟨e1, Mem.on hW e2⟩)
      have HH := Lib.hid (show ∀ W (x : Int) (q : Bool), Below wr.heap.size wr W → has ([3], x) L = q → Calls Try.prog 19 #[.pointer (some ⟨tb, 0, none⟩), .slice (some ⟨W.heap.size, 0, none⟩) 1 1, .int .i64 x] (W.alloc (.cells #[.int .u8 3] 5)) fun e w' => e = .returned (.bool q) ∧ Below wr.heap.size wr w' from fun W x q hW hq => (hasT_t _ _ tb [] L _ 1 1 [3] x q (h1.below (al hW _)) (bs_one W 3 3 rfl) hq).mono fun e w' ⟨e1, e2⟩ => ⟨e1, Mem.on (al hW _) e2⟩)
      have HH1 := Lib.hid (fun W hW => HH.out W 1 true hW n3)
      have HH2 := Lib.hid (fun W hW => HH.out W 2 false hW n4)
      have HB3 := Lib.hid h3
      have hb0 := Below.refl wr.heap.size wr
      clear h1 h2 h3 n3 n4 HR HH
      go_wp2_with first | (go_at_call 16; (with_reducible refine (HDP.out _ hb0).mono ?_); rintro e w4 ⟨rfl, rfl⟩) | (go_at_call 11; (with_reducible refine (HLN.out _ hb0).mono ?_); rintro e w4 ⟨rfl, rfl⟩) | (go_at_call 12; (with_reducible refine (HCH.out _ hb0).mono ?_); rintro e w5 ⟨rfl, hb5⟩; have HB5 := Lib.hid hb5; clear hb0 hb5) | (go_at_call 19; (with_reducible refine (HH1.out _ HB5.out).mono ?_); rintro e w6 ⟨rfl, hb6⟩; have HB6 := Lib.hid hb6; clear hb6) | (go_at_call 19; (with_reducible refine (HH2.out _ HB6.out).mono ?_); rintro e w7 ⟨rfl, hb7⟩; have HB7 := Lib.hid hb7; clear hb7)
      go_ret
      exact ⟨rfl, Mem.on HB3.out HB7.out⟩
end Go.Proofs.Ytjlfacmmokfleaa.Bt
/- Two trees side by side: how many pairs, Check, what Range hands out; acts too long. -/
namespace Go.Proofs.Ytjlfacmmokfleaa.Bt
open Go.RowKit Go.Proofs.Ytjlfacmmokfleaa.Mem Go.Proofs.Ytjlfacmmokfleaa.Right
set_option linter.unusedVariables false

theorem long_t (a : Ab) (x : Bool) (hx : decide (100 < (a.n : Int)) = x) (w : World) : Calls Try.prog 8 #[abv a] w fun e w' => e = .returned (.bool x) ∧ Below w.heap.size w w' := by
  obtain ⟨d, A, n, c, l, z⟩ := a
  have HX := Lib.hid hx
  clear hx
  go_enter Try.func8, Try.ntmps8
  go_wp2
  go_ret
  exact ⟨rb HX.out, al (Below.refl _ _) _⟩
theorem hi_min {L : List Pr} (h : ∀ r ∈ L, -9223372036854775808 ≤ r.num) : hi ([], minI) L = L := by
  cases L with
  | nil => rfl
  | cons x t =>
    have h1 := h x (by simp)
    have : ltb x.k ([], minI) = false := by
      show (klt x.key [] || (x.key == [] && decide (x.num < minI))) = false
      rw [klt_nil, decide_eq_false (by unfold minI; omega)]; simp
    unfold hi
    rw [List.dropWhile_cons, this]; rfl
theorem Duo.lens {w : World} {n₀ tb rb n : Nat} (h : Duo w n₀ tb rb n) : ∃ m A c, (∀ W, Below w.heap.size w W → Calls Try.prog 11 #[.pointer (some ⟨tb, 0, none⟩)] W fun e w' => e = .returned (.int .i64 (m : Nat)) ∧ w' = W) ∧ ∀ W, Below w.heap.size w W → W.cell? ⟨rb, 0, none⟩ = some (.slice A m c) := by
  obtain ⟨v, L, L', h1, h2, h3, h4, h5⟩ := h.both
  obtain ⟨A, c, ev, _⟩ := form_own h2.own
  have hl := congrArg List.length h3
  simp at hl
  refine ⟨L.length, A, c, fun W hW => len_t W n₀ tb L.length [rb] L (h1.below hW) rfl, fun W hW => ?_⟩
  rw [(h2.below hW).cel.at_ 0, ev, hl]; rfl
theorem Duo.check {w : World} {n₀ tb rb n : Nat} (h : Duo w n₀ tb rb n) (hn : n ≤ 1000) (w0 W : World) (h0 : Below w0.heap.size w0 w) (hW : Below w.heap.size w W) : Calls Try.prog 12 #[.pointer (some ⟨tb, 0, none⟩)] W fun e w' => e = .returned (.bool true) ∧ Below w.heap.size w w' := by
  obtain ⟨v, L, L', h1, h2, h3, h4, h5⟩ := h.both
  exact (check_t W n₀ tb L.length [rb] L (h1.below hW) rfl (by omega)).mono fun e w' ⟨e1, e2⟩ => ⟨e1, Mem.on hW e2⟩
/-- All pairs, handed out, are the document's. -/
theorem Duo.range {w : World} {n₀ tb rb n : Nat} (h : Duo w n₀ tb rb n) (hn : n ≤ 1000) : ∃ m A c, (∀ W, Below w.heap.size w W → W.cell? ⟨rb, 0, none⟩ = some (.slice A m c)) ∧ ∀ W, Below w.heap.size w W →
    Calls Try.prog 14 #[.pointer (some ⟨tb, 0, none⟩), .slice none 0 0, .slice none 0 0, .bool true] W fun e w' => ∃ A3 c3, e = .returned (.slice A3 (m : Nat) c3) ∧ Below w.heap.size w w' ∧
      Hid (Calls Try.prog 13 #[.slice A3 m c3, .slice A m c] w' fun e' w2 => e' = .returned (.bool true) ∧ Below w.heap.size w w2) := by
  obtain ⟨v, L, L', h1, h2, h3, h4, h5⟩ := h.both
  obtain ⟨A, c, ev, _⟩ := form_own h2.own
  have hl := congrArg List.length h3
  simp at hl
  refine ⟨L.length, A, c, fun W hW => ?_, fun W hW => ?_⟩
  · rw [(h2.below hW).cel.at_ 0, ev, hl]; rfl
  · have hnil : Bs W none 0 0 [] := ⟨Row.none_, rfl, Nat.le_refl _, by decide⟩
    refine (range_t W n₀ tb [rb] L none none 0 0 0 0 [] [] true (h1.below hW) hnil hnil (by omega) (fun r hr => by have := (h5 r hr).1; omega)).mono ?_
    rintro e w' ⟨A3, c3, s, rfl, ⟨k1, k2, k3, k4⟩, k5⟩
    have ht : (hi ([], minI) L).takeWhile (goR true []) = L := by
      rw [hi_min (fun r hr => (h5 r hr).2)]
      exact all_end (List.all_eq_true.2 (fun r _ => rfl))
    rw [ht] at k5
    have hsl : s.length = L.length := by have := congrArg List.length k5; simpa using this
    have hW' := Mem.on hW k4
    have h2' := (h2.below hW')
    have ho := h2'.own
    rw [ev, ← hl] at ho
    rw [hsl] at k1 ⊢
    refine ⟨A3, c3, rfl, hW', Lib.hid ?_⟩
    exact (same_t w' L.length 0 n₀ A3 A c3 c s L' k1 ho (fun r hr => (k3 r hr).1.a) (fun r hr => (h2'.keys r hr).a) (k5.trans h3) hsl (by omega)).mono fun _ _ ⟨a, b⟩ => ⟨a, Mem.on hW' b⟩
/-- Both trees, made. -/
theorem Duo.made {w w1 : World} {tb : Nat} (hp : BT w1 w.heap.size tb [] []) (hb : Below w.heap.size w w1) : Duo (w1.alloc (.cells #[.slice none 0 0] tR)) w.heap.size tb w1.heap.size 0 :=
  ⟨.slice none 0 0, [], [], hp.more _, ⟨Cel.new w1 tR _ rfl, World.ownsRow_nil _ _ _ _, by simp, List.Pairwise.nil, hb.size⟩, rfl, by simp, by simp⟩
theorem works_on {w wr : World} (h : Below w.heap.size w wr) : Calls Try.prog 9 #[] wr fun e w' => e = .returned (.bool true) ∧ Below w.heap.size w w' :=
  (works_t wr).mono fun e w' ⟨e1, hb⟩ => ⟨e1, Mem.on h hb⟩
end Go.Proofs.Ytjlfacmmokfleaa.Bt
/- How deep the document lets a tree be. -/
namespace Go.Proofs.Ytjlfacmmokfleaa.Bt
open Go.RowKit Go.Proofs.Ytjlfacmmokfleaa.Mem Go.Proofs.Ytjlfacmmokfleaa.Right
set_option linter.unusedVariables false

/-- The document's bound for so many pairs. -/
def Most (n D : Nat) : Prop := (n = 0 ∧ D = 0) ∨ (n ≠ 0 ∧ ∃ j, D = j + 1 ∧ n < 8 * 4 ^ j)
theorem deep_most {L : List Pr} {x D : Nat} (h : Deep L x) (k : Most L.length D) : x ≤ D := by
  rcases h with ⟨rfl, rfl⟩ | ⟨hL, d, rfl, h1, _⟩
  · omega
  · rcases k with ⟨k1, _⟩ | ⟨_, j, rfl, k1⟩
    · exact absurd (List.eq_nil_of_length_eq_zero k1) hL
    · by_cases hd : d ≤ j
      · omega
      · exfalso
        have h2 := h1 (by omega)
        have h3 : 4 ^ (j + 1) ≤ 4 ^ d := Nat.pow_le_pow_right (by decide) (by omega)
        rw [Nat.pow_succ] at h3
        omega
theorem deepest_any (n : Nat) (hn : n ≤ 1000) (w : World) : Calls Try.prog 17 #[.int .i64 (n : Int)] w fun e w' => ∃ D : Nat, e = .returned (.int .i64 (D : Int)) ∧ Most n D ∧ w' = w := by
  by_cases h0 : n = 0
  · subst h0
    go_enter Try.func17, Try.ntmps17
    go_wp2
    go_ret
    exact ⟨0, rfl, .inl ⟨rfl, rfl⟩, rfl⟩
  · have t0 : ((n : Int) == 0) = false := beq_no (by omega)
    go_enter Try.func17, Try.ntmps17
    go_wp2
    go_loopw [3, 4] (fun d k wr => ∃ (j d1 K : Nat), d = .int .i64 (d1 : Int) ∧ k = .int .i64 (K : Int) ∧ Hid (d1 = j + 1 ∧ K = 8 * 4 ^ j ∧ K ≤ 4000 ∧ j + 1 ≤ K ∧ wr = w)) (fun _ k _ => 4001 - (intOf k).toNat)
    case atStart => exact ⟨0, 1, 8, rfl, rfl, Lib.hid ⟨rfl, rfl, by omega, by omega, rfl⟩⟩
    case round =>
      obtain ⟨j, d1, K, rfl, rfl, HR⟩ := hrel
      have h1 := HR.out.2.2.1
      have h2 := HR.out.2.2.2.1
      have h3 : d1 ≤ K := by have := HR.out.1; omega
      by_cases hle : K ≤ n
      · have t1 : (K : Int) ≤ (n : Int) := by omega
        obtain ⟨K2, hK2⟩ : ∃ K2, 4 * K = K2 := ⟨_, rfl⟩
        obtain ⟨d2, hd2⟩ : ∃ d2, d1 + 1 = d2 := ⟨_, rfl⟩
        have t2 : IntKind.i64.wrap (4 * (K : Int)) = (K2 : Int) := by rw [IntKind.wrap_i64]; omega
        have t3 : IntKind.i64.wrap ((d1 : Int) + 1) = (d2 : Int) := by rw [IntKind.wrap_i64]; omega
        have HK := Lib.hid (show 4 * K = K2 ∧ d1 + 1 = d2 ∧ K ≤ n from ⟨hK2, hd2, hle⟩)
        clear hK2 hd2
        go_wp2
        go_roundw
        case rel =>
          obtain ⟨a1, a2, a3, a4, a5⟩ := HR.out
          obtain ⟨b1, b2, b3⟩ := HK.out
          exact ⟨j + 1, d2, K2, rfl, rfl, Lib.hid ⟨by omega, by rw [← b1, a2, Nat.pow_succ]; omega, by omega, by omega, a5⟩⟩
        case measure =>
          have b1 := HK.out.1
          have b3 := HK.out.2.2
          simp [intOf]; omega
      · have t1 : ¬ (K : Int) ≤ (n : Int) := by omega
        go_wp2
        go_ret
        obtain ⟨a1, a2, a3, a4, a5⟩ := HR.out
        exact ⟨d1, rfl, .inr ⟨h0, j, a1, by omega⟩, a5⟩
end Go.Proofs.Ytjlfacmmokfleaa.Bt
/- Two trees side by side: how deep. -/
namespace Go.Proofs.Ytjlfacmmokfleaa.Bt
open Go.RowKit Go.Proofs.Ytjlfacmmokfleaa.Mem Go.Proofs.Ytjlfacmmokfleaa.Right
set_option linter.unusedVariables false

/-- Depth is no more than the document's bound for as many pairs as its list has. -/
theorem Duo.depth {w : World} {n₀ tb rb n : Nat} (h : Duo w n₀ tb rb n) (hn : n ≤ 1000) : ∃ m A c, m ≤ n ∧ (∀ W, Below w.heap.size w W → W.cell? ⟨rb, 0, none⟩ = some (.slice A m c)) ∧ ∀ W, Below w.heap.size w W →
    Calls Try.prog 16 #[.pointer (some ⟨tb, 0, none⟩)] W fun e w' => ∃ x : Nat, e = .returned (.int .i64 (x : Int)) ∧ Hid (∀ D, Most m D → x ≤ D) ∧ w' = W := by
  obtain ⟨v, L, L', h1, h2, h3, h4, h5⟩ := h.both
  obtain ⟨A, c, ev, _⟩ := form_own h2.own
  have hl := congrArg List.length h3
  simp at hl
  refine ⟨L.length, A, c, h4, fun W hW => ?_, fun W hW => ?_⟩
  · rw [(h2.below hW).cel.at_ 0, ev, hl]; rfl
  · refine (depth_t W n₀ tb [rb] L (h1.below hW) (by omega)).mono ?_
    rintro e w' ⟨x, rfl, hx, rfl⟩
    exact ⟨x, rfl, Lib.hid (fun D hD => deep_most hx hD), rfl⟩
end Go.Proofs.Ytjlfacmmokfleaa.Bt
/- Blocks that are new are none of a tree's; the order in which a law drops all pairs. -/
namespace Go.Proofs.Ytjlfacmmokfleaa.Bt
open Go.RowKit Go.Proofs.Ytjlfacmmokfleaa.Mem Go.Proofs.Ytjlfacmmokfleaa.Right
set_option linter.unusedVariables false

theorem BT.news {w w' : World} {n₀ tb : Nat} {X Y : List Nat} {L : List Pr} (h : BT w n₀ tb X L) (hb : Below w.heap.size w w') (hY : ∀ y ∈ Y, w.heap.size ≤ y ∧ y < w'.heap.size) : BT w' n₀ tb (Y ++ X) L := by
  obtain ⟨d, m, h1, h2, h3, h4, h5, h6⟩ := h
  have htl := h1.cel.lt
  refine ⟨d, m, h1.below hb, h2, h3, h4, fun e => ?_, fun y hy => ?_⟩
  · rcases List.mem_append.1 e with e | e
    · have := (hY _ e).1; omega
    · exact h5 e
  · rcases List.mem_append.1 hy with hy | hy
    · refine ⟨fun e => ?_, (hY y hy).2⟩
      have h7 := Rep.lt _ _ h1.rep _ e
      have h8 := (hY y hy).1
      omega
    · exact ⟨(h6 y hy).1, Nat.lt_of_lt_of_le (h6 y hy).2 hb.size⟩
/-- The place that is dropped in round k, of n. -/
def atN (n k : Nat) : Nat := if n % 7 = 0 then k else (7 * k) % n
theorem atN_lt {n k : Nat} (hk : k < n) : atN n k < n := by
  unfold atN
  split
  · exact hk
  · exact Nat.mod_lt _ (by omega)
theorem atN_inj {n a b : Nat} (ha : a < n) (hb : b < n) (h : atN n a = atN n b) : a = b := by
  unfold atN at h
  split at h
  · exact h
  · rename_i hn
    have e1 := Nat.div_add_mod (7 * a) n
    have e2 := Nat.div_add_mod (7 * b) n
    have q1 : 7 * a / n < 7 := Nat.div_lt_of_lt_mul (by omega)
    have q2 : 7 * b / n < 7 := Nat.div_lt_of_lt_mul (by omega)
    rw [h] at e1
    generalize 7 * b % n = r at e1 e2
    generalize 7 * a / n = x at e1 q1
    generalize 7 * b / n = y at e2 q2
    have hx : x = 0 ∨ x = 1 ∨ x = 2 ∨ x = 3 ∨ x = 4 ∨ x = 5 ∨ x = 6 := by omega
    have hy : y = 0 ∨ y = 1 ∨ y = 2 ∨ y = 3 ∨ y = 4 ∨ y = 5 ∨ y = 6 := by omega
    rcases hx with rfl | rfl | rfl | rfl | rfl | rfl | rfl <;> rcases hy with rfl | rfl | rfl | rfl | rfl | rfl | rfl <;> omega
end Go.Proofs.Ytjlfacmmokfleaa.Bt
/- What is left of a list, when its places are dropped one by one. -/
namespace Go.Proofs.Ytjlfacmmokfleaa.Bt
set_option linter.unusedVariables false

theorem mem_drop {p : Kn} {L : List Pr} (hS : Sorted L) (hh : has p L = true) (y : Pr) : y ∈ lo p L ++ (hi p L).tail ↔ y ∈ L ∧ y.k ≠ p := by
  obtain ⟨b, t, e⟩ := has_cons hh
  have hb : b.k = p := by
    have h1 := hi_head e
    unfold has at hh
    rw [e] at hh
    simp only [Bool.not_eq_true'] at hh
    exact (ltb_total hh h1).symm
  have e2 := lo_hi p L
  have hS2 := hS
  rw [← e2, e] at hS2
  have hbt := List.pairwise_cons.1 hS2.right
  rw [e, List.tail_cons]
  constructor
  · intro h
    rcases List.mem_append.1 h with h | h
    · exact ⟨by rw [← e2]; simp [h], fun e3 => by have := lo_lt y h; rw [e3, ltb_irrefl] at this; cases this⟩
    · exact ⟨by rw [← e2, e]; simp [h], fun e3 => by have := hbt.1 y h; rw [hb, e3, ltb_irrefl] at this; cases this⟩
  · rintro ⟨h, hne⟩
    rw [← e2, e] at h
    rcases List.mem_append.1 h with h | h
    · simp [h]
    · rcases List.mem_cons.1 h with rfl | h
      · exact absurd hb hne
      · simp [h]
/-- L has what s has but at the places s 0 .. s (k - 1). -/
def Left (s : List Pr) (f : Nat → Nat) (k : Nat) (L : List Pr) : Prop :=
  L.length + k = s.length ∧ (∀ y ∈ L, ∃ i r, s[i]? = some r ∧ r.k = y.k ∧ ∀ j, j < k → f j ≠ i) ∧ ∀ i r, s[i]? = some r → (∀ j, j < k → f j ≠ i) → ∃ y ∈ L, y.k = r.k
theorem Left.start {s L : List Pr} (f : Nat → Nat) (h : s.map Pr.k = L.map Pr.k) : Left s f 0 L := by
  have hl := congrArg List.length h
  simp at hl
  refine ⟨by omega, fun y hy => ?_, fun i r hr _ => ?_⟩
  · obtain ⟨i, hi, hy⟩ := List.getElem_of_mem hy
    obtain ⟨r, hr⟩ : ∃ r, s[i]? = some r := ⟨_, List.getElem?_eq_getElem (by omega)⟩
    have := congrArg (fun l => l[i]?) h
    simp only [List.getElem?_map, hr, List.getElem?_eq_getElem hi, Option.map_some] at this
    injection this with this
    exact ⟨i, r, hr, by rw [this, hy], fun j hj => by omega⟩
  · have hi := (List.getElem?_eq_some_iff.1 hr).1
    obtain ⟨y, hy⟩ : ∃ y, L[i]? = some y := ⟨_, List.getElem?_eq_getElem (by omega)⟩
    have := congrArg (fun l => l[i]?) h
    simp only [List.getElem?_map, hr, hy, Option.map_some] at this
    injection this with this
    exact ⟨y, List.mem_of_getElem? hy, this.symm⟩
/-- One more is dropped: it was there, and is gone. -/
theorem Left.step {s L : List Pr} {f : Nat → Nat} {k : Nat} {r : Pr} (h : Left s f k L) (hS : Sorted L) (hs : ∀ (i j : Nat) (a b : Pr), s[i]? = some a → s[j]? = some b → a.k = b.k → i = j) (hf : ∀ j, j < k → f j ≠ f k) (hr : s[f k]? = some r) :
    has r.k L = true ∧ Left s f (k + 1) (lo r.k L ++ (hi r.k L).tail) ∧ has r.k (lo r.k L ++ (hi r.k L).tail) = false := by
  have hh : has r.k L = true := (has_iff hS).2 (h.2.2 (f k) r hr hf)
  have hm := fun y => mem_drop hS hh y
  have hS' := (dropD r.k).sorted L r hS hh rfl
  refine ⟨hh, ⟨?_, fun y hy => ?_, fun i a ha hi => ?_⟩, ?_⟩
  · obtain ⟨b, t, e⟩ := has_cons hh
    have h1 := congrArg List.length (lo_hi r.k L)
    rw [e] at h1 ⊢
    have h2 := h.1
    simp at h1 ⊢
    omega
  · obtain ⟨h1, h2⟩ := (hm y).1 hy
    obtain ⟨i, a, h3, h4, h5⟩ := h.2.1 y h1
    refine ⟨i, a, h3, h4, fun j hj => ?_⟩
    by_cases e : j = k
    · subst e
      intro e2
      rw [e2, h3] at hr
      injection hr with hr
      subst hr
      exact h2 h4.symm
    · exact h5 j (by omega)
  · obtain ⟨y, h1, h2⟩ := h.2.2 i a ha (fun j hj => hi j (by omega))
    refine ⟨y, (hm y).2 ⟨h1, fun e => hi k (by omega) (hs _ _ _ _ hr ha (by rw [← h2, e]))⟩, h2⟩
  · cases e : has r.k (lo r.k L ++ (hi r.k L).tail) with
    | false => rfl
    | true =>
      obtain ⟨y, hy, e2⟩ := (has_iff hS').1 e
      exact absurd e2 ((hm y).1 hy).2
end Go.Proofs.Ytjlfacmmokfleaa.Bt
/- All pairs are handed out, and dropped one by one: what is left of the tree. -/
namespace Go.Proofs.Ytjlfacmmokfleaa.Bt
open Go.RowKit Go.Proofs.Ytjlfacmmokfleaa.Mem Go.Proofs.Ytjlfacmmokfleaa.Right
set_option linter.unusedVariables false

theorem Kp.row {n : Nat} {X : List Nat} {a b : World} (h : Kp n X a b) {base : Nat} {e : TypeId} {s m : Nat} {v : Value} {us : List Value} (k : a.ownsRow base e s v m us) (hv : ∀ y ∈ blk v, y ∈ X) : b.ownsRow base e s v m us := by
  obtain ⟨h1, h2⟩ := k
  refine ⟨h1, ?_⟩
  rcases h2 with h2 | ⟨g, cap, cur, rfl, hb, hh, rest⟩
  · exact .inl h2
  · exact .inr ⟨g, cap, cur, rfl, hb, (h.x g (hv g (by simp [blk, Value.ownBlock])) (blk_lt hh)).trans hh, rest⟩
theorem sorted_apart {s : List Pr} (h : Sorted s) {i j : Nat} {a b : Pr} (ha : s[i]? = some a) (hb : s[j]? = some b) (e : a.k = b.k) : i = j := by
  obtain ⟨hi, ha⟩ := List.getElem?_eq_some_iff.1 ha
  obtain ⟨hj, hb⟩ := List.getElem?_eq_some_iff.1 hb
  have hp := List.pairwise_iff_getElem.1 h
  rcases Nat.lt_trichotomy i j with hl | hl | hl
  · have := hp i j hi hj hl
    rw [ha, hb, e, ltb_irrefl] at this; cases this
  · exact hl
  · have := hp j i hj hi hl
    rw [ha, hb, e, ltb_irrefl] at this; cases this
theorem sorted_map {s L : List Pr} (h : Sorted L) (e : s.map Pr.k = L.map Pr.k) : Sorted s := by
  have h1 : (L.map Pr.k).Pairwise fun a b => ltb a b = true := List.pairwise_map.2 h
  rw [← e] at h1
  exact List.pairwise_map.1 h1
theorem small_map {s L : List Pr} {n : Nat} (h : ∀ r ∈ L, r.key.length ≤ n) (e : s.map Pr.k = L.map Pr.k) : ∀ r ∈ s, r.key.length ≤ n := by
  intro r hr
  have h1 : r.k ∈ s.map Pr.k := List.mem_map.2 ⟨r, hr, rfl⟩
  rw [e] at h1
  obtain ⟨y, hy, e2⟩ := List.mem_map.1 h1
  have h2 := h y hy
  have h3 : y.key = r.key := congrArg Prod.fst e2
  rw [← h3]; exact h2
/-- The pairs s lie in v, handed out; of the tree those are left that no round up to k dropped. -/
structure Gone (w0 w : World) (tb : Nat) (v : Value) (s : List Pr) (k : Nat) : Prop where
  old : Below w0.heap.size w0 w
  row : w.ownsRow 0 tP 2 v s.length (cellsP s)
  keys : ∀ r ∈ s, Key w r
  small : ∀ r ∈ s, r.key.length ≤ 1000
  len : s.length ≤ 400
  sorted : Sorted s
  tree : ∃ L, BT w w0.heap.size tb (blk v) L ∧ Left s (atN s.length) k L
theorem Gone.below {w0 w w' : World} {tb : Nat} {v : Value} {s : List Pr} {k : Nat} (h : Gone w0 w tb v s k) (hb : Below w.heap.size w w') : Gone w0 w' tb v s k := by
  obtain ⟨L, h1, h2⟩ := h.tree
  exact ⟨Mem.on h.old hb, own_below h.row hb, fun r hr => (h.keys r hr).below hb, h.small, h.len, h.sorted, L, h1.below hb, h2⟩
/-- The pair that is dropped in round k, where it lies. -/
theorem Gone.at_ {w0 w : World} {tb : Nat} {v : Value} {s : List Pr} {k q : Nat} (h : Gone w0 w tb v s k) (hk : k < s.length) (hq : atN s.length k = q) :
    ∃ g c r, v = .slice (some ⟨g, 0, none⟩) s.length c ∧ s[q]? = some r ∧ q < s.length ∧ ∀ W, Below w.heap.size w W → W.cell? ⟨g, q * 2, none⟩ = some (.slice r.a r.key.length r.c) ∧ W.cell? ⟨g, q * 2 + 1, none⟩ = some (.int .i64 r.num) := by
  have hl : q < s.length := by rw [← hq]; exact atN_lt hk
  obtain ⟨e1, e2⟩ := cellsP_at (List.getElem?_eq_getElem hl)
  obtain ⟨g, c, e, hg, hc, _⟩ := cell_own h.row e1
  obtain ⟨g2, c2, e', _, hc2, _⟩ := cell_own h.row e2
  rw [e] at e'
  injection e' with e3 _ _
  injection e3 with e3
  injection e3 with e3
  subst e3
  exact ⟨g, c, s[q], e, List.getElem?_eq_getElem hl, hl, fun W hW => ⟨(hW.cell (p := ⟨g, _, none⟩) hg).trans hc, (hW.cell (p := ⟨g, _, none⟩) hg).trans hc2⟩⟩
theorem Gone.cells {w0 w : World} {tb g m c : Nat} {s : List Pr} {k q : Nat} {r : Pr} (h : Gone w0 w tb (.slice (some ⟨g, 0, none⟩) m c) s k) (hr : s[q]? = some r) (W : World) (hW : Below w.heap.size w W) :
    W.cell? ⟨g, q * 2, none⟩ = some (.slice r.a r.key.length r.c) ∧ W.cell? ⟨g, q * 2 + 1, none⟩ = some (.int .i64 r.num) := by
  obtain ⟨e1, e2⟩ := cellsP_at hr
  obtain ⟨g1, c1, e, hg, hc, _⟩ := cell_own h.row e1
  obtain ⟨g2, c2, e', _, hc2, _⟩ := cell_own h.row e2
  injection e with e3 _ _
  injection e3 with e3
  injection e3 with e3
  injection e' with e4 _ _
  injection e4 with e4
  injection e4 with e4
  subst e3
  subst e4
  exact ⟨(hW.cell (p := ⟨g, _, none⟩) hg).trans hc, (hW.cell (p := ⟨g, _, none⟩) hg).trans hc2⟩
/-- It is dropped. -/
theorem Gone.drop {w0 w : World} {tb : Nat} {v : Value} {s : List Pr} {k q : Nat} {r : Pr} (h : Gone w0 w tb v s k) (hk : k < s.length) (hq : atN s.length k = q) (hr : s[q]? = some r) (W : World) (hW : Below w.heap.size w W) :
    Calls Try.prog 18 #[.pointer (some ⟨tb, 0, none⟩), .slice r.a r.key.length r.c, .int .i64 r.num] W fun e w' => e = .returned (.bool true) ∧ Gone w0 w' tb v s (k + 1) ∧
      ∀ W2, Below w'.heap.size w' W2 → Calls Try.prog 19 #[.pointer (some ⟨tb, 0, none⟩), .slice r.a r.key.length r.c, .int .i64 r.num] W2 fun e w2 => e = .returned (.bool false) ∧ Below w'.heap.size w' w2 := by
  have hg := h.below hW
  obtain ⟨L, h1, h2⟩ := hg.tree
  have hrs := List.mem_of_getElem? hr
  obtain ⟨g1, g2, g3⟩ := h2.step h1.sorted (fun i j a b ha hb e => sorted_apart h.sorted ha hb e) (fun j hj e => by have := atN_inj (by omega) hk e; omega) (by rw [hq]; exact hr)
  have hkey := hg.keys r hrs
  have hll := h2.1
  have hlen := h.len
  refine (drop_t W w0.heap.size tb (blk v) L r.a r.key.length r.c r.key r.num true h1 hkey.1 hkey.2.2 (h.small r hrs) (by omega) g1).mono ?_
  rintro e w' ⟨rfl, hk1, _, hb⟩
  have hb' := hb rfl
  have hG : Gone w0 w' tb v s (k + 1) := ⟨hg.old.trans hk1.below, hk1.row hg.row (fun y hy => hy), fun x hx => hk1.key (hg.keys x hx), h.small, h.len, h.sorted, _, hb', g2⟩
  exact ⟨rfl, hG, fun W2 hW2 => (hasT_t W2 w0.heap.size tb (blk v) _ r.a r.key.length r.c r.key r.num false (hb'.below hW2) ((hG.keys r hrs).below hW2).1 g3).mono fun _ _ ⟨a, b⟩ => ⟨a, Mem.on hW2 b⟩⟩
theorem Gone.lenT {w0 w : World} {tb : Nat} {v : Value} {s : List Pr} {k m : Nat} (h : Gone w0 w tb v s k) (hm : m + k = s.length) (W : World) (hW : Below w.heap.size w W) : Calls Try.prog 11 #[.pointer (some ⟨tb, 0, none⟩)] W fun e w' => e = .returned (.int .i64 (m : Nat)) ∧ w' = W := by
  obtain ⟨L, h1, h2⟩ := h.tree
  have := h2.1
  exact len_t W w0.heap.size tb m (blk v) L (h1.below hW) (by omega)
theorem Gone.check {w0 w : World} {tb : Nat} {v : Value} {s : List Pr} {k : Nat} (h : Gone w0 w tb v s k) (W : World) (hW : Below w.heap.size w W) : Calls Try.prog 12 #[.pointer (some ⟨tb, 0, none⟩)] W fun e w' => e = .returned (.bool true) ∧ Below w.heap.size w w' := by
  obtain ⟨L, h1, h2⟩ := h.tree
  have := h2.1
  have := h.len
  exact (check_t W w0.heap.size tb L.length (blk v) L (h1.below hW) rfl (by omega)).mono fun _ _ ⟨a, b⟩ => ⟨a, Mem.on hW b⟩
theorem Gone.depth {w0 w : World} {tb : Nat} {v : Value} {s : List Pr} {k : Nat} (h : Gone w0 w tb v s k) (hk : k = s.length) (W : World) (hW : Below w.heap.size w W) : Calls Try.prog 16 #[.pointer (some ⟨tb, 0, none⟩)] W fun e w' => e = .returned (.int .i64 0) ∧ w' = W := by
  obtain ⟨L, h1, h2⟩ := h.tree
  have h3 := h2.1
  have h4 := h.len
  refine (depth_t W w0.heap.size tb (blk v) L (h1.below hW) (by omega)).mono ?_
  rintro e w' ⟨n, rfl, hd, rfl⟩
  rcases hd with ⟨_, rfl⟩ | ⟨hd, _⟩
  · exact ⟨rfl, rfl⟩
  · exact absurd (List.eq_nil_of_length_eq_zero (by omega)) hd
/-- All pairs are handed out. -/
theorem Duo.gone {w wr : World} {tb rb n : Nat} (h : Duo wr w.heap.size tb rb n) (hn : n ≤ 400) (hB : Below w.heap.size w wr) (W : World) (hW : Below wr.heap.size wr W) :
    Calls Try.prog 14 #[.pointer (some ⟨tb, 0, none⟩), .slice none 0 0, .slice none 0 0, .bool true] W fun e w' => ∃ m A c s, s.length = m ∧ e = .returned (.slice A (m : Nat) c) ∧ m ≤ 400 ∧ m ≤ c ∧ (A = none → c = 0) ∧ Gone w w' tb (.slice A m c) s 0 := by
  obtain ⟨v, L, L', h1, h2, h3, h4, h5⟩ := h.both
  have hnil : Bs W none 0 0 [] := ⟨Row.none_, rfl, Nat.le_refl _, by decide⟩
  refine (range_t W w.heap.size tb [rb] L none none 0 0 0 0 [] [] true (h1.below hW) hnil hnil (by omega) (fun r hr => by have := (h5 r hr).1; omega)).mono ?_
  rintro e w' ⟨A3, c3, s, rfl, ⟨k1, k2, k3, k4⟩, k5⟩
  have ht : (hi ([], minI) L).takeWhile (goR true []) = L := by
    rw [hi_min (fun r hr => (h5 r hr).2)]
    exact all_end (List.all_eq_true.2 (fun r _ => rfl))
  rw [ht] at k5
  have hsl : s.length = L.length := by have := congrArg List.length k5; simpa using this
  obtain ⟨A4, c4, e4, e5, _, e6⟩ := form_own k1
  injection e4 with e7 _ e8
  subst e7 e8
  have hS := sorted_map h1.sorted k5
  refine ⟨s.length, A3, c3, s, rfl, rfl, by omega, e5, e6, Mem.on hB (Mem.on hW k4), k1, fun r hr => (k3 r hr).1, small_map (fun r hr => by have := (h5 r hr).1; omega) k5, by omega, hS, L, ?_, Left.start _ k5⟩
  have hbt := (h1.below hW).news (Y := blk (.slice A3 s.length c3)) k4 (fun y hy => ⟨?_, own_lt k1 y hy⟩)
  · obtain ⟨d, m, q1, q2, q3, q4, q5, q6⟩ := hbt
    exact ⟨d, m, q1, q2, q3, q4, fun e => q5 (by simp [e]), fun y hy => q6 y (by simp [hy])⟩
  · exact k2 y (by simpa [blk] using hy)
end Go.Proofs.Ytjlfacmmokfleaa.Bt
