import Derived.Test.YtjlfacmmokfleaaBtUser
import Derived.Test.YtjlfacmmokfleaaBtEach2
import Derived.Test.YtjlfacmmokfleaaBtRefs
import Derived.Test.YtjlfacmmokfleaaMemOpen
import Derived.Lib.SmallJoins
import Derived.Deep.Slices
import Derived.Deep.Fields
import Derived.Test.YtjlfacmmokfleaaBtPut
import Derived.Test.YtjlfacmmokfleaaBtCheck
import Derived.Test.YtjlfacmmokfleaaBtDone
import Derived.Test.YtjlfacmmokfleaaBtDoneD
import Derived.Deep.RegionWith
/- A tree: Range. -/
namespace Go.Proofs.Ytjlfacmmokfleaa.Bt
open Go.RowKit Go.Proofs.Ytjlfacmmokfleaa.Mem Go.Proofs.Ytjlfacmmokfleaa.Right
set_option linter.unusedVariables false

/-- Pairs handed out: a list of the call's own, with keys of their own. -/
def OutL (w W : World) (v : Value) (s : List Pr) : Prop := W.ownsRow 0 tP 2 v s.length (cellsP s) ∧ NewRow w.heap.size v ∧ (∀ r ∈ s, Key W r ∧ Fresh w.heap.size r) ∧ Below w.heap.size w W
def minI : Int := -9223372036854775808
def RangeG (w : World) (all : Bool) (f tt : List UInt8) (L : List Pr) (e : Ending) (w' : World) : Prop :=
  ∃ A c s, e = .returned (.slice A s.length c) ∧ OutL w w' (.slice A s.length c) s ∧ s.map Pr.k = ((hi (f, minI) L).takeWhile (goR all tt)).map Pr.k
set_option maxHeartbeats 2000000 in
theorem range_t (w : World) (n₀ tb : Nat) (X : List Nat) (L : List Pr) (A B : Option Addr) (n c nB cB : Nat) (f tt : List UInt8) (all : Bool) (h : BT w n₀ tb X L) (hf : Bs w A n c f) (ht : Bs w B nB cB tt) (hl : L.length ≤ 1000) (hk : ∀ r ∈ L, r.key.length ≤ 1000) :
    Calls Try.prog 14 #[.pointer (some ⟨tb, 0, none⟩), .slice A n c, .slice B nB cB, .bool all] w (RangeG w all f tt L) := by
  obtain ⟨d, m, h1, h2, h3, h4, h5, h6⟩ := h
  obtain rfl := hf.2.1
  have hb1 := al (Below.refl w.heap.size w) (.cells #[.slice B nB cB] 30)
  have hb2 := al hb1 (.cells #[.bool all] 4)
  have hb3 := al hb2 (.cells #[.slice none 0 0] tPs)
  have htl : Tl w (w.heap.size + 1) w.heap.size (w.heap.size + 2) all B nB cB [] (.slice none 0 0) (((w.alloc (.cells #[.slice B nB cB] 30)).alloc (.cells #[.bool all] 4)).alloc (.cells #[.slice none 0 0] tPs)) :=
    ⟨hb3, (Cel.new _ 4 #[.bool all] (by simp)).alloc _, ((Cel.new w 30 #[.slice B nB cB] rfl).alloc _).alloc _, Cel.new _ tPs #[.slice none 0 0] (by simp), by omega, World.ownsRow_nil _ _ _ _, fun g hg => by simp [Value.ownBlock] at hg, fun r hr => by simp at hr⟩
  have HM := Lib.hid (fun (W : World) (hW : Below w.heap.size w W) => made_any tb (nb m) W ((h1.cel.below hW).at_ 0))
  have HEA := Lib.hid (show Calls Try.prog 31 #[.pointer (some ⟨nb m, 0, none⟩), .agg #[.slice A f.length c, .int .i64 (-9223372036854775808)], .func (.func 32) #[] #[.pointer (some ⟨w.heap.size + 1, 0, none⟩), .pointer (some ⟨w.heap.size, 0, none⟩), .pointer (some ⟨w.heap.size + 2, 0, none⟩)]] _ (TellG w _ (w.heap.size + 1) w.heap.size (w.heap.size + 2) all B nB cB [] (.slice none 0 0) ((hi (f, minI) (prs (d + 1) m)).takeWhile (goR all tt)) ((hi (f, minI) (prs (d + 1) m)).all (goR all tt))) from
    each_any w (w.heap.size + 1) w.heap.size (w.heap.size + 2) all B nB cB tt ⟨A, c, f, minI⟩ ht hf d m _ [] (.slice none 0 0) htl h1.rep h1.inn (fun e => by have := h1.two e; omega) h1.le h1.sorted (by rw [h2]; exact hk) _ rfl (by
      have e1 : (hi (f, minI) (prs (d + 1) m)).length ≤ (prs (d + 1) m).length := by
        have e3 := congrArg List.length (lo_hi (f, minI) (prs (d + 1) m))
        rw [List.length_append] at e3
        omega
      have e2 : (hi (Pr.k ⟨A, c, f, minI⟩) (prs (d + 1) m)).length ≤ (prs (d + 1) m).length := e1
      rw [h2] at e2 ⊢
      simp
      omega) _ rfl)
  have HT := Lib.hid (h1.below hb3)
  have H2 := Lib.hid h2
  clear h1 h2 h3 h4 h5 h6 hf ht hl hk hb1 hb2 hb3
  have HTL := Lib.hid htl
  clear htl
  go_enter Try.func14, Try.ntmps14
  go_upto_region 4 with (go_at_call 24; (with_reducible refine (HM.out _ (al (al (Below.refl _ _) _) _)).mono ?_); rintro e w1 ⟨rfl, rfl⟩)
  have y0 := HT.out.cel.at_ 0
  go_wp2_with (go_at_call 31; (with_reducible refine HEA.out.mono ?_); rintro e w2 ⟨rfl, s, v, k1, k2, k3⟩; have HK1 := Lib.hid k1; have HK3 := Lib.hid k3; obtain ⟨A3, c3, rfl, _⟩ := form_own k1.own; have l0 := k1.lv_.at_ 0; clear k1 k2 k3)
  go_ret
  refine ⟨A3, c3, s, rfl, ⟨HK1.out.own, HK1.out.fresh, HK1.out.keys, HK1.out.old⟩, ?_⟩
  rw [← H2.out]
  simpa using HK3.out
theorem range_none (w : World) (A B : Option Addr) (n c nB cB : Nat) (all : Bool) (p : Option Addr) (hp : p = none ∨ ∃ tb, p = some ⟨tb, 0, none⟩ ∧ w.cell? ⟨tb, 0, none⟩ = some (.pointer none) ∧ tb < w.heap.size) :
    Calls Try.prog 14 #[.pointer p, .slice A n c, .slice B nB cB, .bool all] w fun e w' => e = .returned (.slice none 0 0) ∧ Below w.heap.size w w' := by
  have hb2 := al (al (Below.refl w.heap.size w) (.cells #[.slice B nB cB] 30)) (.cells #[.bool all] 4)
  have HM := Lib.hid (show Calls Try.prog 24 #[.pointer p] ((w.alloc (.cells #[.slice B nB cB] 30)).alloc (.cells #[.bool all] 4)) fun e w' => e = .returned (.bool false) ∧ w' = (w.alloc (.cells #[.slice B nB cB] 30)).alloc (.cells #[.bool all] 4) from by
    rcases hp with rfl | ⟨tb, rfl, h, hl⟩
    · exact made_none _
    · exact made_zero tb _ ((hb2.cell (p := ⟨tb, 0, none⟩) hl).trans h))
  have HB := Lib.hid hb2
  clear hp hb2
  go_enter Try.func14, Try.ntmps14
  go_wp2_with (go_at_call 24; (with_reducible refine HM.out.mono ?_); rintro e w1 ⟨rfl, rfl⟩)
  go_ret
  exact ⟨rfl, HB.out⟩
end Go.Proofs.Ytjlfacmmokfleaa.Bt
/- Acts on trees as they come in: a slice of them, and one by value. -/
namespace Go.Proofs.Ytjlfacmmokfleaa.Bt
open Go.RowKit Go.Proofs.Ytjlfacmmokfleaa.Mem Go.Proofs.Ytjlfacmmokfleaa.Right Go.ChangeShapes Go.WideShapes Go.Joins Go.Deep
set_option linter.unusedVariables false

/-- A slice of acts that came in. -/
def Acts (w : World) (P : Option Addr) (acs : List Ab) : Prop :=
  ∀ k a, acs[k]? = some a → (∃ b o, P = some ⟨b, o, none⟩ ∧ b < w.heap.size ∧ w.cell? ⟨b, o + k * 3, none⟩ = some (.int .i64 a.d) ∧ w.cell? ⟨b, o + k * 3 + 1, none⟩ = some (.slice a.A a.n a.c) ∧ w.cell? ⟨b, o + k * 3 + 2, none⟩ = some (.int .i64 a.x)) ∧ AbOk w a
section
variable {H : Type} {enc : TypeId × Value → H} {W : World}
set_option maxRecDepth 100000 in
theorem act_cells {m : Nat} {cs : List Value} {x : DataW H × List MemPlace} (h : DataW.trod enc Try.prog W 0 (fun _ => true) true m tA cs = some x) (hlen : cs.length = 3) :
    ∃ a : Ab, cs = [.int .i64 a.d, .slice a.A a.n a.c, .int .i64 a.x] ∧ AbOk W a := by
  obtain ⟨xs, k', _, _, _, hxl, hfd⟩ := DataW.trod_struct Try.underlying32 h
  match xs, hxl, cs, hlen with
  | [y0, y1, y2], _, [v0, v1, v2], _ =>
    have hci : Try.prog.cellsOf 3 = 1 := by kernel_rfl
    have hcb : Try.prog.cellsOf 30 = 1 := by kernel_rfl
    have hcu : Try.prog.cellsOf 5 = 1 := by kernel_rfl
    have t0 : DataW.trod enc Try.prog W 0 (fun _ => true) true k' 3 [v0] = some y0 := by
      have := hfd 0 _ rfl
      simpa [hci] using this
    have t1 : DataW.trod enc Try.prog W 0 (fun _ => true) true k' 30 [v1] = some y1 := by
      have := hfd 1 _ rfl
      simpa [hcb, hci] using this
    have t2 : DataW.trod enc Try.prog W 0 (fun _ => true) true k' 3 [v2] = some y2 := by
      have := hfd 2 _ rfl
      simpa [hci, hcb] using this
    obtain ⟨a0, e0, _, _⟩ := DataW.trod_int Try.underlying3 t0
    obtain ⟨a2, e2, _, w2⟩ := DataW.trod_int Try.underlying3 t2
    obtain ⟨A4, n4, c4, e4⟩ := Joins.slice_form Try.underlying30 t1
    simp at e0 e2 e4
    subst e0 e2 e4
    have hc4 : A4 = none → c4 = 0 := fun e => by
      rcases open_ints Try.underlying30 Try.underlying5 hcu t1 with ⟨hcs, _⟩ | ⟨a, l, c', zs, hcs, _, hl, hm, _⟩
      · simp at hcs
        exact hcs.2.2
      · simp at hcs
        rw [e] at hcs
        cases hcs.1
    obtain ⟨l4, hl4⟩ := Mem.open_bytes Try.underlying30 Try.underlying5 (by kernel_rfl) (show DataW.Trod enc Try.prog W 0 (fun _ => true) true 30 (.slice A4 n4 c4) y1.1 y1.2 from ⟨k', by simpa [Value.cells] using t1⟩)
    exact ⟨⟨a0, A4, n4, c4, l4, a2⟩, rfl, hl4, hc4, (bounds_i64 w2).1⟩
theorem open_acts {A : Option Addr} {n c : Nat} {d : DataW H} {p : List MemPlace} (h : DataW.Trod enc Try.prog W 0 (fun _ => true) true 22 (.slice A n c) d p) :
    ∃ acs : List Ab, acs.length = n ∧ n ≤ 9223372036854775807 ∧ Acts W A acs := by
  obtain ⟨fuel, hf⟩ := h
  rcases open_slice Try.underlying22 hf with ⟨hcs, _⟩ | ⟨a, l, c', m, k, D, Pl, hcs, _, hl, hm, hmm, _, hx⟩
  · simp [Value.cells] at hcs
    obtain ⟨rfl, rfl, rfl⟩ := hcs
    exact ⟨[], rfl, by omega, fun k a h => by simp at h⟩
  · simp [Value.cells] at hcs
    obtain ⟨rfl, rfl, rfl⟩ := hcs
    have hC : Try.prog.cellsOf 32 = 3 := by kernel_rfl
    have each : ∀ i, i < n → ∃ v : Ab, (W.cell? (a.add (i * 3)) = some (.int .i64 v.d) ∧ W.cell? (a.add (i * 3 + 1)) = some (.slice v.A v.n v.c) ∧ W.cell? (a.add (i * 3 + 2)) = some (.int .i64 v.x)) ∧ AbOk W v := by
      intro i hi
      obtain ⟨cs', h1, h2⟩ := hx i (by rw [hmm]; simp; omega)
      rw [hC] at h1
      obtain ⟨_, hlen, hcell⟩ := World.cells?_some h1
      obtain ⟨v, rfl, hv⟩ := act_cells h2 hlen
      have c0 := hcell 0 (by omega)
      have c1 := hcell 1 (by omega)
      have c2 := hcell 2 (by omega)
      rw [add_add] at c0 c1 c2
      exact ⟨v, ⟨by simpa using c0, by simpa using c1, by simpa using c2⟩, hv⟩
    obtain ⟨q, hq⟩ := choose_lt each
    unfold maxLen at hm
    refine ⟨(List.range n).map q, by simp, by omega, ?_⟩
    intro j v hj
    rw [List.getElem?_map] at hj
    obtain ⟨i, hi, rfl⟩ := Option.map_eq_some_iff.1 hj
    obtain ⟨hjn, hi'⟩ := List.getElem?_eq_some_iff.1 hi
    simp at hjn hi'
    subst hi'
    obtain ⟨⟨c0, c1, c2⟩, hb⟩ := hq j hjn
    obtain ⟨b, o, s⟩ := a
    have hs : s = none := by simpa [Addr.add] using World.cell?_spot (hq 0 (by omega)).1.1
    subst hs
    rw [add_plain] at c0 c1 c2
    exact ⟨⟨b, o, rfl, cell_block c0, c0, c1, c2⟩, hb⟩
set_option maxRecDepth 100000 in
theorem open_act {r : Reach} {b0 : Nat} {v : Value} {d : DataW H} {p : List MemPlace} (hv : Value.okWide Try.prog W r b0 32 v) (h : DataW.Trod enc Try.prog W 0 (fun _ => true) true 32 v d p) :
    ∃ a : Ab, v = abv a ∧ AbOk W a := by
  obtain ⟨cs, rfl, hsz⟩ := okWide_struct Try.underlying32 hv
  have hC : Try.prog.cellsOf 32 = 3 := by kernel_rfl
  obtain ⟨fuel, hf⟩ := h
  obtain ⟨a, ha, hk⟩ := act_cells hf (by simpa [Value.cells] using hsz.trans hC)
  refine ⟨a, ?_, hk⟩
  have e : cs.toList = [Value.int .i64 a.d, .slice a.A a.n a.c, .int .i64 a.x] := ha
  rw [show cs = cs.toList.toArray from rfl, e]
end
theorem Acts.below {w w' : World} {P : Option Addr} {acs : List Ab} (h : Acts w P acs) (hb : Below w.heap.size w w') : Acts w' P acs := fun k a ha => by
  obtain ⟨⟨b, o, e, hlt, c0, c1, c2⟩, hl⟩ := h k a ha
  exact ⟨⟨b, o, e, Nat.lt_of_lt_of_le hlt hb.size, (hb.cell (p := ⟨b, _, none⟩) hlt).trans c0, (hb.cell (p := ⟨b, _, none⟩) hlt).trans c1, (hb.cell (p := ⟨b, _, none⟩) hlt).trans c2⟩, hl.below hb⟩
/-- The cells of the act that is looked at, in every world grown out of this one. -/
theorem Acts.one {w : World} {P : Option Addr} {acs : List Ab} (h : Acts w P acs) {k : Nat} (hk : k < acs.length) : ∃ (b o : Nat) (a : Ab), P = some ⟨b, o, none⟩ ∧ AbOk w a ∧ ∀ W, Below w.heap.size w W → W.cell? ⟨b, o + k * 3, none⟩ = some (.int .i64 a.d) ∧ W.cell? ⟨b, o + k * 3 + 1, none⟩ = some (.slice a.A a.n a.c) ∧ W.cell? ⟨b, o + k * 3 + 2, none⟩ = some (.int .i64 a.x) := by
  obtain ⟨⟨b, o, e, hlt, c0, c1, c2⟩, hb⟩ := h k acs[k] (List.getElem?_eq_getElem hk)
  exact ⟨b, o, acs[k], e, hb, fun W hW => ⟨(hW.cell (p := ⟨b, _, none⟩) hlt).trans c0, (hW.cell (p := ⟨b, _, none⟩) hlt).trans c1, (hW.cell (p := ⟨b, _, none⟩) hlt).trans c2⟩⟩
end Go.Proofs.Ytjlfacmmokfleaa.Bt
/- Are the pairs handed out the document's. -/
namespace Go.Proofs.Ytjlfacmmokfleaa.Bt
open Go.RowKit Go.Proofs.Ytjlfacmmokfleaa.Mem Go.Proofs.Ytjlfacmmokfleaa.Right
set_option linter.unusedVariables false

theorem own_pair {w : World} {B n : Nat} {e : TypeId} {A : Option Addr} {cA : Nat} {L : List Pr} (h : w.ownsRow B e 2 (.slice A n cA) n (cellsP L)) {k : Nat} {r : Pr} (hk : L[k]? = some r) :
    ∃ g, A = some ⟨g, 0, none⟩ ∧ ∀ W, Below w.heap.size w W → W.cell? ⟨g, k * 2, none⟩ = some (.slice r.a r.key.length r.c) ∧ W.cell? ⟨g, k * 2 + 1, none⟩ = some (.int .i64 r.num) := by
  obtain ⟨e1, e2⟩ := cellsP_at hk
  obtain ⟨g, c, e, hg, hc, _⟩ := cell_own h e1
  obtain ⟨g2, c2, e', _, hc2, _⟩ := cell_own h e2
  injection e with ea _ _
  injection e' with ea' _ _
  rw [ea] at ea'
  injection ea' with ea'
  injection ea' with ea'
  subst ea'
  exact ⟨g, ea, fun W hW => ⟨(hW.cell (p := ⟨g, k * 2, none⟩) hg).trans hc, (hW.cell (p := ⟨g, k * 2 + 1, none⟩) hg).trans hc2⟩⟩
set_option maxHeartbeats 4000000 in
theorem same_t (w : World) (n b1 b2 : Nat) (A C : Option Addr) (cA cC : Nat) (s L : List Pr) (h1 : w.ownsRow b1 tP 2 (.slice A n cA) n (cellsP s)) (h2 : w.ownsRow b2 tRP 2 (.slice C n cC) n (cellsP L)) (k1 : ∀ r ∈ s, KeyA w r) (k2 : ∀ r ∈ L, KeyA w r) (hs : s.map Pr.k = L.map Pr.k) (hl : s.length = n) (hn : n ≤ 100000) :
    Calls Try.prog 13 #[.slice A n cA, .slice C n cC] w fun e w' => e = .returned (.bool true) ∧ Below w.heap.size w w' := by
  have hl2 : L.length = n := by have := congrArg List.length hs; simp at this; omega
  have H1 := Lib.hid h1
  have H2 := Lib.hid h2
  have K1 := Lib.hid k1
  have K2 := Lib.hid k2
  have HS := Lib.hid hs
  have HL := Lib.hid (show s.length = n ∧ L.length = n from ⟨hl, hl2⟩)
  have t0 : ((n : Int) != (n : Int)) = false := by simp
  clear h1 h2 k1 k2 hs hl hl2
  go_enter Try.func13, Try.ntmps13
  go_upto_region 4 with (fail)
  go_loopw [5] (fun i wr => ∃ k : Nat, k ≤ n ∧ i = .int .i64 (k : Int) ∧ Hid (Below w.heap.size w wr)) (fun i _ => n - (intOf i).toNat)
  case atStart => exact ⟨0, Nat.zero_le _, rfl, Lib.hid (Below.refl _ _)⟩
  case round =>
    obtain ⟨k, hk, rfl, HB⟩ := hrel
    by_cases hlt : k < n
    · obtain ⟨r, hr⟩ : ∃ r, s[k]? = some r := ⟨_, List.getElem?_eq_getElem (by have := HL.out.1; omega)⟩
      obtain ⟨q, hq⟩ : ∃ q, L[k]? = some q := ⟨_, List.getElem?_eq_getElem (by have := HL.out.2; omega)⟩
      have hrq : r.k = q.k := by
        have := congrArg (fun l => l[k]?) HS.out
        simp only [List.getElem?_map, hr, hq, Option.map_some] at this
        injection this
      have hkey : r.key = q.key := congrArg Prod.fst hrq
      have hnum : r.num = q.num := congrArg Prod.snd hrq
      obtain ⟨g1, rfl, c1⟩ := own_pair H1.out hr
      obtain ⟨g2, rfl, c2⟩ := own_pair H2.out hq
      have HK := Lib.hid (show ∀ W, Below w.heap.size w W → (W.cell? ⟨g1, k * 2, none⟩ = some (.slice r.a r.key.length r.c) ∧ W.cell? ⟨g1, k * 2 + 1, none⟩ = some (.int .i64 r.num)) ∧ W.cell? ⟨g2, k * 2, none⟩ = some (.slice q.a q.key.length q.c) ∧ W.cell? ⟨g2, k * 2 + 1, none⟩ = some (.int .i64 r.num) from fun W hW => ⟨c1 W hW, by rw [hnum]; exact c2 W hW⟩)
      have HSM := Lib.hid (fun W' (hW : Below w.heap.size w W') => Refs.same_in r.a q.a r.key.length q.key.length r.c q.c r.key q.key true (decide_eq_true hkey) w W' (K1.out r (List.mem_of_getElem? hr)) (K2.out q (List.mem_of_getElem? hq)) hW)
      have t1 : (k : Int) < (n : Int) := by omega
      have t2 : (r.num != r.num) = false := by simp
      have hb9 := HB.out
      clear hr hq hrq hkey hnum c1 c2
      go_upto_region 6 with (fail)
      refine wp_region_quiet (C := fun w' => Below w.heap.size w w') (by kernel_rfl) (by kernel_rfl) hb9.drew ?_
      repeat (first | go_big_quiet_skip | (refine BigFrame.wpQuiet_want rfl (fun K hK => ?_); refine quietC_val ?_; apply Exists.intro; refine ⟨fun W hW => ?_, hK _ ?_⟩; (focus (obtain ⟨⟨q0, q1⟩, q2, q3⟩ := HK.out W hW; go_simp; first | done | rfl)); clear hK K; simp only [Act.put, List.setIfInBounds_toArray, List.set_cons_zero, List.set_cons_succ]) | (quiet_step ((intro hW; first | (go_at_call 30; exact HSM.out _ hW)))))
      refine wpQuiet_nil ?_
      intro W9 hw9
      have HW9 := Lib.hid hw9
      clear hw9
      go_wp2
      go_roundw
      case rel => exact ⟨k + 1, by omega, by go_num, HW9⟩
      case measure => simp [intOf]; omega
    · have hkn : k = n := by omega
      subst hkn
      go_wp2
      go_ret
      exact ⟨rfl, HB.out⟩
end Go.Proofs.Ytjlfacmmokfleaa.Bt
/- The law's own example: nine pairs make a tree of two storeys. -/
namespace Go.Proofs.Ytjlfacmmokfleaa.Bt
open Go.RowKit Go.Proofs.Ytjlfacmmokfleaa.Mem Go.Proofs.Ytjlfacmmokfleaa.Right
set_option linter.unusedVariables false

theorem bs_one (w : World) (b : UInt8) (z : Int) (hz : z = (b.toNat : Int)) : Bs (w.alloc (.cells #[.int .u8 z] 5)) (some ⟨w.heap.size, 0, none⟩) 1 1 [b] := by
  subst hz
  have hc := Cel.new w 5 #[.int .u8 (b.toNat : Int)] rfl
  refine ⟨fun k u hu => ⟨w.heap.size, 0, rfl, by simp, ?_⟩, rfl, Nat.le_refl _, by decide⟩
  match k with
  | 0 => simp [bys] at hu; subst hu; exact hc.at_ 0
  | k + 1 => simp [bys] at hu
/-- The first so many of the example's pairs are there. -/
def Nine (L : List Pr) (i : Nat) : Prop := L.length = i ∧ (∀ y ∈ L, ∃ j, j < i ∧ y.k = ([UInt8.ofNat j], 1)) ∧ ∀ j, j < i → ∃ y ∈ L, y.k = ([UInt8.ofNat j], 1)
theorem Nine.more {L : List Pr} {i : Nat} {r : Pr} (h : Nine L i) (hr : r.k = ([UInt8.ofNat i], 1)) : Nine (lo ([UInt8.ofNat i], 1) L ++ r :: hi ([UInt8.ofNat i], 1) L) (i + 1) := by
  have e := lo_hi ([UInt8.ofNat i], 1) L
  have hm : ∀ y, y ∈ lo ([UInt8.ofNat i], 1) L ++ r :: hi ([UInt8.ofNat i], 1) L ↔ y = r ∨ y ∈ L := fun y => by
    conv => rhs; rw [← e]
    simp [or_left_comm]
  refine ⟨?_, fun y hy => ?_, fun j hj => ?_⟩
  · have := congrArg List.length e
    simp at this ⊢
    have := h.1; omega
  · rcases (hm y).1 hy with rfl | hy
    · exact ⟨i, by omega, hr⟩
    · obtain ⟨j, h1, h2⟩ := h.2.1 y hy
      exact ⟨j, by omega, h2⟩
  · by_cases e2 : j = i
    · subst e2; exact ⟨r, (hm r).2 (.inl rfl), hr⟩
    · obtain ⟨y, h1, h2⟩ := h.2.2 j (by omega)
      exact ⟨y, (hm y).2 (.inr h1), h2⟩
theorem nine_no {L : List Pr} {i : Nat} (hS : Sorted L) (h : Nine L i) (hi : i < 9) : (!has ([UInt8.ofNat i], 1) L) = true := by
  cases e : has ([UInt8.ofNat i], 1) L with
  | false => rfl
  | true =>
    obtain ⟨y, hy, e2⟩ := (has_iff hS).1 e
    obtain ⟨j, hj, e3⟩ := h.2.1 y hy
    rw [e2] at e3
    have e4 : UInt8.ofNat i = UInt8.ofNat j := by simpa using congrArg Prod.fst e3
    have := congrArg UInt8.toNat e4
    simp at this
    omega
theorem nine_has {L : List Pr} (hS : Sorted L) (h : Nine L 9) : has ([3], 1) L = true ∧ has ([3], 2) L = false := by
  refine ⟨(has_iff hS).2 (h.2.2 3 (by decide)), ?_⟩
  cases e : has ([3], 2) L with
  | false => rfl
  | true =>
    obtain ⟨y, hy, e2⟩ := (has_iff hS).1 e
    obtain ⟨j, hj, e3⟩ := h.2.1 y hy
    rw [e2] at e3
    have := congrArg Prod.snd e3
    simp at this
theorem nine_deep {L : List Pr} {n : Nat} (h : Nine L 9) (hd : Deep L n) : n = 2 := by
  rcases hd with ⟨rfl, _⟩ | ⟨_, d, rfl, h1, h2⟩
  · have := h.1; simp at this
  · rw [h.1] at h1 h2
    match d with
    | 0 => simp at h2
    | 1 => rfl
    | d + 2 =>
      have := h1 (by omega)
      have h3 : 1 ≤ 4 ^ d := Nat.one_le_pow _ _ (by decide)
      rw [Nat.pow_succ, Nat.pow_succ] at this
      omega
set_option maxHeartbeats 4000000 in
theorem works_t (w : World) : Calls Try.prog 9 #[] w fun e w' => e = .returned (.bool true) ∧ Below w.heap.size w w' := by
  go_enter Try.func9, Try.ntmps9
  go_upto_region 2 with (go_at_call 7; (with_reducible refine (new_t w).mono ?_); rintro e w1 ⟨tb, rfl, hbt, hb1⟩; have HBT := Lib.hid hbt; have HB1 := Lib.hid hb1; clear hbt hb1)
  go_upto_region 3 with (fail)
  go_loopw [2] (fun i wr => ∃ (k : Nat) (L : List Pr), k ≤ 9 ∧ i = .int .i64 (k : Int) ∧ Hid (BT wr w.heap.size tb [] L ∧ Nine L k ∧ Below w.heap.size w wr)) (fun i _ => 9 - (intOf i).toNat)
  case atStart => exact ⟨0, [], by omega, rfl, Lib.hid ⟨HBT.out, ⟨rfl, by simp, fun j hj => by omega⟩, HB1.out⟩⟩
  case round =>
    clear HBT HB1
    obtain ⟨k, L, hk, rfl, HR⟩ := hrel
    obtain ⟨h1, h2, h3⟩ := HR.out
    by_cases hlt : k < 9
    · have t1 : (k : Int) < 9 := by omega
      have t2 : IntKind.u8.wrap (k : Int) = (k : Int) := by rw [IntKind.wrap_u8]; omega
      have hal := al (Below.refl wr.heap.size wr) (.cells #[.int .u8 (k : Int)] 5)
      have HPU := Lib.hid (put_t (wr.alloc (.cells #[.int .u8 (k : Int)] 5)) w.heap.size tb [] L _ 1 1 [UInt8.ofNat k] 1 true (h1.below hal) (bs_one wr (UInt8.ofNat k) k (by simp; omega)) (fun e => by cases e) (by decide) (by have := h2.1; omega) (nine_no h1.sorted h2 hlt))
      have HAL := Lib.hid (Mem.on h3 hal)
      clear h1 h2 h3 hal
      go_wp2_with (go_at_call 20; (with_reducible refine HPU.out.mono ?_); rintro e w3 ⟨rfl, k1, _, k3⟩; have HK1 := Lib.hid k1; have HK3 := Lib.hid (k3 rfl); clear k1 k3)
      go_roundw
      case rel =>
        obtain ⟨r, hr, _, hbt⟩ := HK3.out
        exact ⟨k + 1, _, by omega, by go_num, Lib.hid ⟨hbt, HR.out.2.1.more hr, HAL.out.trans HK1.out.below⟩⟩
      case measure => simp [intOf]; omega
    · obtain rfl : k = 9 := by omega
      have t1 : ¬ ((9 : Nat) : Int) < 9 := by omega
      obtain ⟨n3, n4⟩ := nine_has h1.sorted h2
      have HDP := Lib.hid (show ∀ W, Below wr.heap.size wr W → Calls Try.prog 16 #[.pointer (some ⟨tb, 0, none⟩)] W fun e w' => e = .returned (.int .i64 2) ∧ w' = W from fun W hW => (depth_t W _ tb [] L (h1.below hW) (by have := h2.1; omega)).mono fun e w' ⟨n, e1, e2, e3⟩ => ⟨by rw [e1, nine_deep h2 e2]; rfl, e3⟩)
      have HLN := Lib.hid (show ∀ W, Below wr.heap.size wr W → Calls Try.prog 11 #[.pointer (some ⟨tb, 0, none⟩)] W fun e w' => e = .returned (.int .i64 9) ∧ w' = W from fun W hW => len_t W _ tb 9 [] L (h1.below hW) h2.1)
      have HCH := Lib.hid (show ∀ W, Below wr.heap.size wr W → Calls Try.prog 12 #[.pointer (some ⟨tb, 0, none⟩)] W fun e w' => e = .returned (.bool true) ∧ Below wr.heap.size wr w' from fun W hW => (check_t W _ tb 9 [] L (h1.below hW) h2.1 (by decide)).mono fun e w' ⟨e1, e2⟩ => ⟨e1, Mem.on hW e2⟩)
      have HH := Lib.hid (show ∀ W (x : Int) (q : Bool), Below wr.heap.size wr W → has ([3], x) L = q → Calls Try.prog 19 #[.pointer (some ⟨tb, 0, none⟩), .slice (some ⟨W.heap.size, 0, none⟩) 1 1, .int .i64 x] (W.alloc (.cells #[.int .u8 3] 5)) fun e w' => e = .returned (.bool q) ∧ Below wr.heap.size wr w' from fun W x q hW hq => (hasT_t _ _ tb [] L _ 1 1 [3] x q (h1.below (al hW _)) (bs_one W 3 3 rfl) hq).mono fun e w' ⟨e1, e2⟩ => ⟨e1, Mem.on (al hW _) e2⟩)
      have HH1 := Lib.hid (fun W hW => HH.out W 1 true hW n3)
      have HH2 := Lib.hid (fun W hW => HH.out W 2 false hW n4)
      have HB3 := Lib.hid h3
      have hb0 := Below.refl wr.heap.size wr
      clear h1 h2 h3 n3 n4 HR HH
      go_wp2_with first | (go_at_call 16; (with_reducible refine (HDP.out _ hb0).mono ?_); rintro e w4 ⟨rfl, rfl⟩) | (go_at_call 11; (with_reducible refine (HLN.out _ hb0).mono ?_); rintro e w4 ⟨rfl, rfl⟩) | (go_at_call 12; (with_reducible refine (HCH.out _ hb0).mono ?_); rintro e w5 ⟨rfl, hb5⟩; have HB5 := Lib.hid hb5; clear hb0 hb5) | (go_at_call 19; (with_reducible refine (HH1.out _ HB5.out).mono ?_); rintro e w6 ⟨rfl, hb6⟩; have HB6 := Lib.hid hb6; clear hb6) | (go_at_call 19; (with_reducible refine (HH2.out _ HB6.out).mono ?_); rintro e w7 ⟨rfl, hb7⟩; have HB7 := Lib.hid hb7; clear hb7)
      go_ret
      exact ⟨rfl, Mem.on HB3.out HB7.out⟩
end Go.Proofs.Ytjlfacmmokfleaa.Bt
/- Two trees side by side: how many pairs, Check, what Range hands out; acts too long. -/
namespace Go.Proofs.Ytjlfacmmokfleaa.Bt
open Go.RowKit Go.Proofs.Ytjlfacmmokfleaa.Mem Go.Proofs.Ytjlfacmmokfleaa.Right
set_option linter.unusedVariables false

theorem long_t (a : Ab) (x : Bool) (hx : decide (100 < (a.n : Int)) = x) (w : World) : Calls Try.prog 8 #[abv a] w fun e w' => e = .returned (.bool x) ∧ Below w.heap.size w w' := by
  obtain ⟨d, A, n, c, l, z⟩ := a
  have HX := Lib.hid hx
  clear hx
  go_enter Try.func8, Try.ntmps8
  go_wp2
  go_ret
  exact ⟨rb HX.out, al (Below.refl _ _) _⟩
theorem hi_min {L : List Pr} (h : ∀ r ∈ L, -9223372036854775808 ≤ r.num) : hi ([], minI) L = L := by
  cases L with
  | nil => rfl
  | cons x t =>
    have h1 := h x (by simp)
    have : ltb x.k ([], minI) = false := by
      show (klt x.key [] || (x.key == [] && decide (x.num < minI))) = false
      rw [klt_nil, decide_eq_false (by unfold minI; omega)]; simp
    unfold hi
    rw [List.dropWhile_cons, this]; rfl
theorem Duo.lens {w : World} {n₀ tb rb n : Nat} (h : Duo w n₀ tb rb n) : ∃ m A c, (∀ W, Below w.heap.size w W → Calls Try.prog 11 #[.pointer (some ⟨tb, 0, none⟩)] W fun e w' => e = .returned (.int .i64 (m : Nat)) ∧ w' = W) ∧ ∀ W, Below w.heap.size w W → W.cell? ⟨rb, 0, none⟩ = some (.slice A m c) := by
  obtain ⟨v, L, L', h1, h2, h3, h4, h5⟩ := h.both
  obtain ⟨A, c, ev, _⟩ := form_own h2.own
  have hl := congrArg List.length h3
  simp at hl
  refine ⟨L.length, A, c, fun W hW => len_t W n₀ tb L.length [rb] L (h1.below hW) rfl, fun W hW => ?_⟩
  rw [(h2.below hW).cel.at_ 0, ev, hl]; rfl
theorem Duo.check {w : World} {n₀ tb rb n : Nat} (h : Duo w n₀ tb rb n) (hn : n ≤ 1000) (w0 W : World) (h0 : Below w0.heap.size w0 w) (hW : Below w.heap.size w W) : Calls Try.prog 12 #[.pointer (some ⟨tb, 0, none⟩)] W fun e w' => e = .returned (.bool true) ∧ Below w.heap.size w w' := by
  obtain ⟨v, L, L', h1, h2, h3, h4, h5⟩ := h.both
  exact (check_t W n₀ tb L.length [rb] L (h1.below hW) rfl (by omega)).mono fun e w' ⟨e1, e2⟩ => ⟨e1, Mem.on hW e2⟩
/-- All pairs, handed out, are the document's. -/
theorem Duo.range {w : World} {n₀ tb rb n : Nat} (h : Duo w n₀ tb rb n) (hn : n ≤ 1000) : ∃ m A c, (∀ W, Below w.heap.size w W → W.cell? ⟨rb, 0, none⟩ = some (.slice A m c)) ∧ ∀ W, Below w.heap.size w W →
    Calls Try.prog 14 #[.pointer (some ⟨tb, 0, none⟩), .slice none 0 0, .slice none 0 0, .bool true] W fun e w' => ∃ A3 c3, e = .returned (.slice A3 (m : Nat) c3) ∧ Below w.heap.size w w' ∧
      Hid (Calls Try.prog 13 #[.slice A3 m c3, .slice A m c] w' fun e' w2 => e' = .returned (.bool true) ∧ Below w.heap.size w w2) := by
  obtain ⟨v, L, L', h1, h2, h3, h4, h5⟩ := h.both
  obtain ⟨A, c, ev, _⟩ := form_own h2.own
  have hl := congrArg List.length h3
  simp at hl
  refine ⟨L.length, A, c, fun W hW => ?_, fun W hW => ?_⟩
  · rw [(h2.below hW).cel.at_ 0, ev, hl]; rfl
  · have hnil : Bs W none 0 0 [] := ⟨Row.none_, rfl, Nat.le_refl _, by decide⟩
    refine (range_t W n₀ tb [rb] L none none 0 0 0 0 [] [] true (h1.below hW) hnil hnil (by omega) (fun r hr => by have := (h5 r hr).1; omega)).mono ?_
    rintro e w' ⟨A3, c3, s, rfl, ⟨k1, k2, k3, k4⟩, k5⟩
    have ht : (hi ([], minI) L).takeWhile (goR true []) = L := by
      rw [hi_min (fun r hr => (h5 r hr).2)]
      exact all_end (List.all_eq_true.2 (fun r _ => rfl))
    rw [ht] at k5
    have hsl : s.length = L.length := by have := congrArg List.length k5; simpa using this
    have hW' := Mem.on hW k4
    have h2' := (h2.below hW')
    have ho := h2'.own
    rw [ev, ← hl] at ho
    rw [hsl] at k1 ⊢
    refine ⟨A3, c3, rfl, hW', Lib.hid ?_⟩
    exact (same_t w' L.length 0 n₀ A3 A c3 c s L' k1 ho (fun r hr => (k3 r hr).1.a) (fun r hr => (h2'.keys r hr).a) (k5.trans h3) hsl (by omega)).mono fun _ _ ⟨a, b⟩ => ⟨a, Mem.on hW' b⟩
/-- Both trees, made. -/
theorem Duo.made {w w1 : World} {tb : Nat} (hp : BT w1 w.heap.size tb [] []) (hb : Below w.heap.size w w1) : Duo (w1.alloc (.cells #[.slice none 0 0] tR)) w.heap.size tb w1.heap.size 0 :=
  ⟨.slice none 0 0, [], [], hp.more _, ⟨Cel.new w1 tR _ rfl, World.ownsRow_nil _ _ _ _, by simp, List.Pairwise.nil, hb.size⟩, rfl, by simp, by simp⟩
theorem works_on {w wr : World} (h : Below w.heap.size w wr) : Calls Try.prog 9 #[] wr fun e w' => e = .returned (.bool true) ∧ Below w.heap.size w w' :=
  (works_t wr).mono fun e w' ⟨e1, hb⟩ => ⟨e1, Mem.on h hb⟩
end Go.Proofs.Ytjlfacmmokfleaa.Bt
/- The law's act, whichever. -/
namespace Go.Proofs.Ytjlfacmmokfleaa.Bt
open Go.RowKit Go.Proofs.Ytjlfacmmokfleaa.Mem Go.Proofs.Ytjlfacmmokfleaa.Right
set_option linter.unusedVariables false

theorem done_any (w0 w : World) (tb rb n : Nat) (a : Ab) (h : Duo w w0.heap.size tb rb n) (hb0 : Below w0.heap.size w0 w) (ha : AbOk w0 a) (hm : a.n ≤ 100) (hn : n ≤ 500) :
    Calls Try.prog 10 #[.pointer (some ⟨tb, 0, none⟩), .pointer (some ⟨rb, 0, none⟩), abv a] w (DoneG w0 w tb rb (n + 1)) := by
  obtain ⟨d, A, m, c, l, x⟩ := a
  obtain ⟨h1, h2, h3⟩ := ha
  by_cases h0 : d = 0
  · subst h0
    exact done_put w0 w tb rb n A m c l x h hb0 h1 h2 hm h3 hn
  · by_cases h4 : d = 1
    · subst h4
      exact done_drop w0 w tb rb n A m c l x h hb0 h1 h2 hm h3 hn
    · exact done_has w0 w tb rb n d h0 h4 A m c l x h hb0 h1 h2 hm h3 hn
end Go.Proofs.Ytjlfacmmokfleaa.Bt
/- The law that the tree and the document's play the same: the walk. -/
namespace Go.Proofs.Ytjlfacmmokfleaa.Bt
open Go.RowKit Go.Proofs.Ytjlfacmmokfleaa.Mem Go.Proofs.Ytjlfacmmokfleaa.Right
set_option linter.unusedVariables false

set_option maxRecDepth 100000 in
set_option maxHeartbeats 8000000 in
theorem walk_plays (P : Option Addr) (n c : Nat) (acs : List Ab) (w : World) (hn : acs.length = n) (hn64 : n ≤ 9223372036854775807) (h : Acts w P acs) :
    Calls Try.prog 3 #[.slice P n c] w fun e w' => e = .returned (.bool true) ∧ Below w.heap.size w w' := by
  have H := Lib.hid h
  have HN := Lib.hid hn
  clear h hn
  go_enter Try.func3, Try.ntmps3
  go_upto_region 2 with (go_at_call 7; (with_reducible refine (new_t w).mono ?_); rintro e w1 ⟨tb, rfl, hp1, hb1⟩; have HD1 := Lib.hid (Duo.made hp1 hb1); have HB1 := Lib.hid (al hb1 (.cells #[.slice none 0 0] tR)); clear hp1 hb1)
  go_upto_region 3 with fail
  have hD2 := HD1.out
  have hB2 := HB1.out
  clear HD1 HB1
  generalize w1.alloc (.cells #[.slice none 0 0] tR) = W2 at hD2 hB2 ⊢
  generalize w1.heap.size = rb at hD2 ⊢
  have HD2 := Lib.hid (show _ ∧ _ from ⟨hD2, hB2⟩)
  clear hD2 hB2
  go_wp2
  go_loopw [5] (fun i wr => ∃ k : Nat, k ≤ n ∧ k ≤ 400 ∧ i = .int .i64 k ∧ Hid (Duo wr w.heap.size tb rb k ∧ Below w.heap.size w wr)) (fun i _ => n - (intOf i).toNat)
  case atStart => exact ⟨0, Nat.zero_le _, Nat.zero_le _, rfl, HD2⟩
  case round =>
    clear HD2
    obtain ⟨k, hk, hk4, rfl, HD⟩ := hrel
    by_cases hlt : k < n ∧ k < 400
    · obtain ⟨hlt, h4⟩ := hlt
      obtain ⟨b, o, a, rfl, hok, hc⟩ := H.out.one (k := k) (by rw [HN.out]; exact hlt)
      have HC := Lib.hid hc
      have HA := Lib.hid hok
      clear hc hok
      have hlt' : (k : Int) < (n : Int) := by omega
      have h4' : (k : Int) < 400 := by omega
      have d1 : decide (k < n) = true := decide_eq_true hlt
      have d2 : decide ((k : Int) < 400) = true := decide_eq_true h4'
      obtain ⟨c0, c1, c2⟩ := HC.out wr HD.out.2
      by_cases hlong : 100 < a.n
      · have HLG := Lib.hid (decide_eq_true (show (100 : Int) < (a.n : Int) by omega))
        have HB0 := Lib.hid HD.out.2
        clear HD
        go_wp2_with first | (go_at_call 8; (with_reducible refine (long_t a true HLG.out _).mono ?_); rintro e w2 ⟨rfl, hb2⟩; have HB2 := Lib.hid (Mem.on HB0.out hb2); clear hb2) | (go_at_call 9; (with_reducible refine (works_on HB2.out).mono ?_); rintro e w3 ⟨rfl, hb3⟩; have HB3 := Lib.hid hb3; clear hb3)
        go_ret
        exact ⟨rfl, HB3.out⟩
      · have HLG := Lib.hid (decide_eq_false (show ¬ (100 : Int) < (a.n : Int) by omega))
        go_upto_region 8 with (go_at_call 8; (with_reducible refine (long_t a false HLG.out _).mono ?_); rintro e w2 ⟨rfl, hb2⟩; have HD2 := Lib.hid (show Duo w2 w.heap.size tb rb k ∧ Below w.heap.size w w2 from ⟨HD.out.1.below hb2, Mem.on HD.out.2 hb2⟩); clear hb2)
        clear c0 c1 c2 HD HLG
        obtain ⟨c0, c1, c2⟩ := HC.out w2 HD2.out.2
        obtain ⟨e0, e1, e2⟩ := HC.out w2.drew HD2.out.2.drew
        have HDN := Lib.hid (show ∀ W, Below w2.heap.size w2 W → Calls Try.prog 10 #[.pointer (some ⟨tb, 0, none⟩), .pointer (some ⟨rb, 0, none⟩), abv a] W (DoneG w W tb rb (k + 1)) from fun W hW => done_any w W tb rb k a (HD2.out.1.below hW) (Mem.on HD2.out.2 hW) HA.out (by omega) (by omega))
        have hb9 := Below.refl w2.heap.size w2
        have hb8 := (Below.refl w2.heap.size w2).drew
        clear hlong HD2
        go_cut [42] from 25 to 43 (fun x wx => x = .bool false ∧ Hid (Duo wx w.heap.size tb rb (k + 1) ∧ Below w.heap.size w wx))
        case first =>
          go_region_with (first | (go_at_call 10; (refine (HDN.out _ (by first | assumption)).mono ?_); rintro e w3 ⟨rfl, hd3, hb3⟩; have HD3 := Lib.hid (show Duo w3 w.heap.size tb rb (k + 1) ∧ Below w.heap.size w w3 from ⟨hd3, hb3⟩); obtain ⟨m, A5, c5, hln, hcell⟩ := hd3.lens; have y3 := hcell w3 (Below.refl _ _); have HLN := Lib.hid (hln w3 (Below.refl _ _)); have tm : ((m : Int) != (m : Int)) = false := (by simp); clear hln hcell hd3 hb3) | (go_at_call 11; (with_reducible refine HLN.out.mono ?_); rintro e w4 ⟨rfl, rfl⟩))
          all_goals first | (go_wp2; go_meet; exact ⟨rfl, HD3⟩) | (go_meet; exact ⟨rfl, HD3⟩) | trace_state
        case rest =>
          obtain ⟨rfl, HD5⟩ := hcut
          clear c0 c1 c2 e0 e1 e2 HDN hb9 hb8
          have HCK := Lib.hid (HD5.out.1.check (by omega) w _ HD5.out.2 (Below.refl _ _))
          by_cases h7 : (k : Int) % 8 = 7
          · have t7 : ((k : Int) % 8 == 7) = true := by rw [h7]; rfl
            have t8 : ((k : Int).tmod 8 == 7) = true := by rw [Int.tmod_eq_emod_of_nonneg (by omega), h7]; rfl
            go_wp2_with (go_at_call 12; (with_reducible refine HCK.out.mono ?_); rintro e w6 ⟨rfl, hb6⟩; have HD6 := Lib.hid (show Duo w6 w.heap.size tb rb (k + 1) ∧ Below w.heap.size w w6 from ⟨HD5.out.1.below hb6, Mem.on HD5.out.2 hb6⟩); clear hb6)
            go_roundw
            case rel => exact ⟨k + 1, by omega, by omega, by go_num, HD6⟩
            case measure => simp [intOf]; omega
          · have t7 : ((k : Int) % 8 == 7) = false := beq_no h7
            have t8 : ((k : Int).tmod 8 == 7) = false := beq_no (by rw [Int.tmod_eq_emod_of_nonneg (by omega)]; exact h7)
            go_wp2
            go_roundw
            case rel => exact ⟨k + 1, by omega, by omega, by go_num, HD5⟩
            case measure => simp [intOf]; omega
    · by_cases hlt0 : k < n
      · have d1 : decide (k < n) = true := decide_eq_true hlt0
        have hlt' : (k : Int) < (n : Int) := by omega
        have d2 : decide ((k : Int) < 400) = false := decide_eq_false (by omega)
        have h4' : ¬ (k : Int) < 400 := by omega
        obtain ⟨m, A5, c5, hcell, hrg⟩ := HD.out.1.range (by omega)
        have HCE := Lib.hid hcell
        have HRG := Lib.hid hrg
        have HCK := Lib.hid (fun W (hW : Below wr.heap.size wr W) => HD.out.1.check (by omega) w W HD.out.2 hW)
        have HWK := Lib.hid (fun W (hW : Below wr.heap.size wr W) => works_on (w := wr) hW)
        have HB0 := Lib.hid HD.out.2
        have y0 := hcell wr (Below.refl _ _)
        have yd := hcell _ (Below.refl wr.heap.size wr).drew
        have hb8 := (Below.refl wr.heap.size wr).drew
        have hb9 := Below.refl wr.heap.size wr
        clear hcell hrg HD
        go_upto_region 12 with (fail)
        go_region_with (first | (go_at_call 12; (refine (HCK.out _ (by first | assumption)).mono ?_); rintro e w5 ⟨rfl, hb5⟩; have y5 := HCE.out _ hb5) | (go_at_call 14; (refine (HRG.out _ (by first | assumption)).mono ?_); rintro e w6 ⟨A6, c6, rfl, hb6, HSM⟩; have y6 := HCE.out _ hb6) | (go_at_call 13; (with_reducible refine HSM.out.mono ?_); rintro e w7 ⟨rfl, hb7⟩) | (go_at_call 9; (refine (HWK.out _ (by first | assumption)).mono ?_); rintro e w8 ⟨rfl, hb8⟩; have HB8 := Lib.hid hb8))
        all_goals first | (go_wp2; go_ret; exact ⟨rfl, Mem.on HB0.out HB8.out⟩) | (go_ret; exact ⟨rfl, Mem.on HB0.out HB8.out⟩) | trace_state
      · have d1 : decide (k < n) = false := decide_eq_false hlt0
        have hlt' : ¬ (k : Int) < (n : Int) := by omega
        obtain ⟨m, A5, c5, hcell, hrg⟩ := HD.out.1.range (by omega)
        have HCE := Lib.hid hcell
        have HRG := Lib.hid hrg
        have HCK := Lib.hid (fun W (hW : Below wr.heap.size wr W) => HD.out.1.check (by omega) w W HD.out.2 hW)
        have HWK := Lib.hid (fun W (hW : Below wr.heap.size wr W) => works_on (w := wr) hW)
        have HB0 := Lib.hid HD.out.2
        have y0 := hcell wr (Below.refl _ _)
        have yd := hcell _ (Below.refl wr.heap.size wr).drew
        have hb8 := (Below.refl wr.heap.size wr).drew
        have hb9 := Below.refl wr.heap.size wr
        clear hcell hrg HD
        go_upto_region 12 with (fail)
        go_region_with (first | (go_at_call 12; (refine (HCK.out _ (by first | assumption)).mono ?_); rintro e w5 ⟨rfl, hb5⟩; have y5 := HCE.out _ hb5) | (go_at_call 14; (refine (HRG.out _ (by first | assumption)).mono ?_); rintro e w6 ⟨A6, c6, rfl, hb6, HSM⟩; have y6 := HCE.out _ hb6) | (go_at_call 13; (with_reducible refine HSM.out.mono ?_); rintro e w7 ⟨rfl, hb7⟩) | (go_at_call 9; (refine (HWK.out _ (by first | assumption)).mono ?_); rintro e w8 ⟨rfl, hb8⟩; have HB8 := Lib.hid hb8))
        all_goals first | (go_wp2; go_ret; exact ⟨rfl, Mem.on HB0.out HB8.out⟩) | (go_ret; exact ⟨rfl, Mem.on HB0.out HB8.out⟩) | trace_state
end Go.Proofs.Ytjlfacmmokfleaa.Bt
