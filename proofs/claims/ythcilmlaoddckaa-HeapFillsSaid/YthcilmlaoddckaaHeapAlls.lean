import Derived.Test.YthcilmlaoddckaaHeapItems
/- The loop over a heap's items as a law; Len. -/
namespace Go.Proofs.Ythcilmlaoddckaa.Pg
open Go.RowKit Go.Proofs.Ythcilmlaoddckaa.Mem Go.Proofs.Ythcilmlaoddckaa.Right
set_option linter.unusedVariables false
attribute [local go_sem] Oper.semAt_some

theorem own_row {base : Nat} {e : TypeId} {size n : Nat} {v : Value} {us : List Value} {X Y : World} {row : Option Nat} (h : X.ownsRow base e size v n us) (hg : X.grownBy Y row) (hr : ∀ r, row = some r → ∃ o : Obj, X.heap[r]? = some o ∧ o.isCells = false) : Y.ownsRow base e size v n us := by
  obtain ⟨h1, h2⟩ := h
  refine ⟨h1, ?_⟩
  rcases h2 with h2 | ⟨g, cap, cur, hv, hb, hh, rest⟩
  · exact .inl h2
  · refine .inr ⟨g, cap, cur, hv, hb, (hg.block g (blk_lt hh) (fun e' => ?_)).trans hh, rest⟩
    obtain ⟨o, ho, hc⟩ := hr g e'.symm
    rw [hh] at ho
    cases ho
    cases hc
theorem gx_own (L : List (List Sl)) (Bn B : Nat) : OwnFrom B (GX L Bn) := fun xs X Y row h hg hr => ⟨fun x hx => own_row (h.1 x hx) hg (fun r e => (hr r e).2), h.2⟩
theorem GX.few {L : List (List Sl)} {Bn : Nat} {xs : List Iv} {W : World} (h : GX L Bn xs W) : xs.length ≤ (allH L).length := by
  have := h.2.length_le
  rwa [List.length_map] at this
theorem items_each (n : Nat) (hn : 1 ≤ n) (Bn nb B : Nat) (L : List (List Sl)) (w0 w : World) (hH : HP w0 nb B L) (hBn : Boxed w Bn 23 (.pointer (some ⟨B, 0, none⟩))) (hB0 : w0.heap.size ≤ Bn) (hW : Below w0.heap.size w0 w) :
    Each n Try.prog 43 #[.pointer (some ⟨Bn, 0, none⟩)] (fun x : Iv => #[ivv x]) (KI w0.heap.size Bn) (GX L Bn) (fun xs => xs.map (fun x => x.it) = allH L) w :=
  fun l J W hW' hJ hY h0 => items_in n hn l Bn nb B L w0 hH J hJ hY W ((hW'.block Bn hBn.lt).trans hBn) hB0 (hW.trans (hW'.mono hW.size)) h0
theorem items_any (A : Option Addr) (w : World) : Calls Try.prog 26 #[.pointer A] w fun e w' => e = .returned (.func (.func 43) #[] #[.pointer (some ⟨w.heap.size, 0, none⟩)]) ∧ w' = w.alloc (.cells #[.pointer A] 23) := by
  go_enter Try.func26, Try.ntmps26
  go_wp2
  go_ret
  exact ⟨rfl, rfl⟩
theorem allH_len : ∀ (L : List (List Sl)) (k : Nat), (∀ S ∈ L, Ok S) → (allN L k).length ≤ k * 256
  | L, 0, _ => Nat.le_refl _
  | L, k + 1, h => by
    have h1 := allH_len L k h
    have h2 := slotsN_len (pageOf L k) (pageOf L k).length
    have h3 := (ok_page h k).fit.room
    unfold allN itsP itsN
    rw [List.length_append, List.length_map]
    omega
set_option maxRecDepth 100000 in
set_option maxHeartbeats 2000000 in
theorem len_h (nb B : Nat) (L : List (List Sl)) (w : World) (h : HP w nb B L) :
    Calls Try.prog 11 #[.pointer (some ⟨B, 0, none⟩)] w fun e w' => e = .returned (.int .i64 ((allH L).length : Int)) ∧ Below w.heap.size w w' := by
  refine (callsIn_wide (n := 5)).1 ?_
  refine callsIn_of_wp_marks Try.func11 rfl trivial ?_ rfl
  simp only [Try.ntmps11, List.size_toArray, List.length_cons, List.length_nil, Nat.reduceAdd, Nat.reduceSub, Array.replicate_succ, Array.replicate_zero, List.push_toArray, List.append_toArray, List.nil_append, List.cons_append]
  gi_wp2_with (refine ⟨trivial, ?_⟩; gi_at_call 26; refine (callsIn_wide.2 (items_any _ _)).mono ?_; rintro e w' ⟨rfl, rfl⟩)
  have bN := Boxed.new w 3 (.int .i64 0)
  have bP := Boxed.new (w.alloc (.cells #[.int .i64 0] 3)) 23 (.pointer (some ⟨B, 0, none⟩))
  rw [World.size_alloc] at bP
  have hB0 : Below w.heap.size w ((w.alloc (.cells #[.int .i64 0] 3)).alloc (.cells #[.pointer (some ⟨B, 0, none⟩)] 23)) := al (al (Below.refl _ _) _) _
  have hlen : (allH L).length ≤ 64 * 256 := by
    have h1 := allH_len L L.length h.ok.each
    have h2 := h.ok.few
    unfold allH
    omega
  refine wp_each (by omega) rfl (enters_of Try.func43 (by kernel_rfl) rfl) (items_each 4 (by omega) (w.heap.size + 1) nb B L w _ h bP (by omega) hB0) (fun x => rfl) ki_t (ki_b (w := (w.alloc (.cells #[.int .i64 0] 3)).alloc (.cells #[.pointer (some ⟨B, 0, none⟩)] 23)) (by simp; omega))
    (fun pre W => Boxed W w.heap.size 3 (.int .i64 (pre.length : Nat)) ∧ Below w.heap.size w W)
    ⟨OwnFrom.and (Own.from (boxed_own _ _ (fun pre : List Iv => .int .i64 (pre.length : Nat))) _) (ownFrom_below (Nat.le_refl _) (by simp; omega)), fun pre A C hA hb => ⟨(hb.block _ hA.1.lt).trans hA.1, hA.2.trans (hb.mono hA.2.size)⟩⟩
    (gx_own L _ _) ⟨bN.alloc _, hB0⟩
    (fun pre x a' W => (Boxed W w.heap.size 3 (.int .i64 (pre.length : Nat)) ∧ Below w.heap.size w W) ∧ (pre ++ [x]).length ≤ 16384 ∧ a' = { tmps := #[.pointer (some ⟨B, 0, none⟩), undef, .int .i64 0, .pointer (some ⟨w.heap.size, 0, none⟩), .pointer (some ⟨B, 0, none⟩), .func (.func 43) #[] #[.pointer (some ⟨w.heap.size + 1, 0, none⟩)], ivv x, undef, undef, undef], defers := [] })
    (fun pre x => OwnFrom.and (OwnFrom.and (Own.from (boxed_own _ _ (fun _ => .int .i64 (pre.length : Nat))) _) (ownFrom_below (Nat.le_refl _) (by simp; omega))) (OwnFrom.and (ownFrom_pure _ _) (ownFrom_pure _ _))) ?assign ?body ?done
  case assign =>
    intro l pre x W hI hGx
    have hfew := hGx.few
    gi_wp2
    exact ⟨KeepsFrom.refl _ _, ⟨Below.refl _ _, fun _ _ _ _ _ _ h => h⟩, hI, by omega, by simp⟩
  case body =>
    rintro l pre x a' W ⟨⟨hb, hB⟩, hle, rfl⟩
    have hc := hb.cell
    have hf := hb.frozen
    have hle' : pre.length ≤ 16384 := by rw [List.length_append] at hle; omega
    gi_wp2
    refine ⟨(KeepsOthers.setCell _ _ _).from _, ki_set _ _ _ (Nat.le_refl _) (by omega), ?_, hB.setCell (p := ⟨w.heap.size, 0, none⟩) (Nat.le_refl _) _⟩
    have e : ((pre ++ [x]).length : Int) = (pre.length : Int) + 1 := by rw [List.length_append]; simp
    show Boxed _ _ _ (.int .i64 ((pre ++ [x]).length : Int))
    rw [e]
    exact hb.set _
  case done =>
    rintro D xs W hD hS hGx ⟨hb, hB⟩ hK
    have hc := hb.cell
    gi_wp2
    refine ⟨by simp, .inl ⟨_, _, rfl, run_takeDeferred hK, ?_⟩⟩
    refine ⟨_, results_tmp rfl _ _ _, ?_, fin_below hB (by simp at hD; omega) hK rfl rfl⟩
    have hl := congrArg List.length hS
    rw [List.length_map] at hl
    rw [← hl]; rfl
end Go.Proofs.Ythcilmlaoddckaa.Pg
/- Lists of items in memory; the heap's All. -/
namespace Go.Proofs.Ythcilmlaoddckaa.Pg
open Go.RowKit Go.Proofs.Ythcilmlaoddckaa.Mem Go.Proofs.Ythcilmlaoddckaa.Right
set_option linter.unusedVariables false
attribute [local go_sem] Oper.semAt_some

def ivc (x : Iv) : List Value := [.int .i64 (x.it.p : Int), .int .i64 (x.it.s : Int), x.v]
def ivcAll (xs : List Iv) : List Value := xs.flatMap ivc
theorem ivcAll_len : ∀ xs : List Iv, (ivcAll xs).length = xs.length * 3
  | [] => rfl
  | x :: xs => by
    have := ivcAll_len xs
    unfold ivcAll at this ⊢
    rw [List.flatMap_cons, List.length_append, this, List.length_cons]
    show 3 + _ = _
    omega
theorem ivcAll_snoc (xs : List Iv) (x : Iv) : ivcAll (xs ++ [x]) = ivcAll xs ++ ivc x := by simp [ivcAll]
theorem ivcAll_at : ∀ {xs : List Iv} {k : Nat} {x : Iv}, xs[k]? = some x → (ivcAll xs)[k * 3]? = some (.int .i64 (x.it.p : Int)) ∧ (ivcAll xs)[k * 3 + 1]? = some (.int .i64 (x.it.s : Int)) ∧ (ivcAll xs)[k * 3 + 2]? = some x.v
  | [], k, x, h => by simp at h
  | u :: l, 0, x, h => by
    simp at h; subst h
    exact ⟨rfl, rfl, rfl⟩
  | u :: l, k + 1, x, h => by
    rw [List.getElem?_cons_succ] at h
    obtain ⟨h0, h1, h2⟩ := ivcAll_at h
    have e : (k + 1) * 3 = k * 3 + 3 := by omega
    rw [e]
    exact ⟨h0, h1, h2⟩
/-- A slice that reads as these items, in a block of items of type T. -/
def IL (T : TypeId) (w : World) (A : Option Addr) (n : Nat) (l : List It) : Prop :=
  ∃ xs : List Iv, xs.map (fun x => x.it) = l ∧ l.length = n ∧ Row w w.heap.size A (ivcAll xs) ∧ Tyd w A T ∧ ∀ x ∈ xs, ∃ A' c', x.v = .slice A' x.it.d.length c' ∧ Bs w A' x.it.d.length c' x.it.d
theorem IL.below {T : TypeId} {w w' : World} {A : Option Addr} {n : Nat} {l : List It} (h : IL T w A n l) (hb : Below w.heap.size w w') : IL T w' A n l := by
  obtain ⟨xs, h1, h2, h3, h4, h5⟩ := h
  refine ⟨xs, h1, h2, (h3.below hb (Nat.le_refl _)).more hb.size, h4.below hb, fun x hx => ?_⟩
  obtain ⟨A', c', e, hs⟩ := h5 x hx
  exact ⟨A', c', e, hs.below hb⟩
theorem IL.frm {T : TypeId} {U : List TypeId} {n₀ : Nat} {w w' : World} {A : Option Addr} {n : Nat} {l : List It} (h : IL T w A n l) (hf : Frm U n₀ w w') (hT : T ∉ U) : IL T w' A n l := by
  obtain ⟨xs, h1, h2, h3, h4, h5⟩ := h
  refine ⟨xs, h1, h2, hf.row hT h4 h3, hf.tyd hT h4, fun x hx => ?_⟩
  obtain ⟨A', c', e, hs⟩ := h5 x hx
  exact ⟨A', c', e, hf.bs hs⟩
theorem IL.len {T : TypeId} {w : World} {A : Option Addr} {n : Nat} {l : List It} (h : IL T w A n l) : l.length = n := by
  obtain ⟨xs, _, h2, _⟩ := h; exact h2
/-- An item of the list, and its cells. -/
theorem IL.get {T : TypeId} {w : World} {A : Option Addr} {n k : Nat} {l : List It} (h : IL T w A n l) (hk : k < n) :
    ∃ b o i A' c', A = some ⟨b, o, none⟩ ∧ b < w.heap.size ∧ l[k]? = some i ∧ w.cell? ⟨b, o + k * 3, none⟩ = some (.int .i64 (i.p : Int)) ∧ w.cell? ⟨b, o + k * 3 + 1, none⟩ = some (.int .i64 (i.s : Int)) ∧ w.cell? ⟨b, o + k * 3 + 2, none⟩ = some (.slice A' i.d.length c') ∧ Bs w A' i.d.length c' i.d := by
  obtain ⟨xs, h1, h2, h3, h4, h5⟩ := h
  have hl : xs.length = n := by rw [← h2, ← h1, List.length_map]
  obtain ⟨x, hx⟩ : ∃ x, xs[k]? = some x := ⟨_, List.getElem?_eq_getElem (by omega)⟩
  obtain ⟨a0, a1, a2⟩ := ivcAll_at hx
  obtain ⟨A', c', e, hs⟩ := h5 _ (List.mem_of_getElem? hx)
  obtain ⟨b, o, eA, hb, c0⟩ := h3 _ _ a0
  obtain ⟨b1, o1, eA1, _, c1⟩ := h3 _ _ a1
  obtain ⟨b2, o2, eA2, _, c2⟩ := h3 _ _ a2
  rw [eA] at eA1 eA2
  injection eA1 with eA1
  injection eA1 with q1 q2
  injection eA2 with eA2
  injection eA2 with q3 q4
  subst q1 q2 q3 q4
  rw [← Nat.add_assoc] at c1 c2
  exact ⟨b, o, x.it, A', c', eA, hb, by rw [← h1, List.getElem?_map, hx]; rfl, c0, c1, by rw [c2, e], hs⟩
theorem own3 {w : World} {base : Nat} {e : TypeId} {A : Option Addr} {n c : Nat} {us : List Value} (h : w.ownsRow base e 3 (.slice A n c) n us) : Row w w.heap.size A us ∧ Tyd w A e := by
  refine ⟨Row.own3 h, fun b o ea => ?_⟩
  rcases h.2 with ⟨hv, _⟩ | ⟨g, cap, cur, hv, _, hg, _⟩
  · injection hv with hA; rw [hA] at ea; cases ea
  · injection hv with hA
    rw [hA] at ea
    injection ea with ea
    injection ea with e1 e2
    subst e1
    exact ⟨_, _, hg⟩
theorem row_slice {w : World} {base : Nat} {e : TypeId} {size n : Nat} {v : Value} {us : List Value} (h : w.ownsRow base e size v n us) : ∃ A c, v = .slice A n c := by
  rcases h.2 with ⟨rfl, rfl⟩ | ⟨g, cap, cur, rfl, _⟩
  · exact ⟨none, 0, rfl⟩
  · exact ⟨_, cap, rfl⟩
theorem bytes_row {w : World} {base : Nat} {v : Value} {l : List UInt8} (h : w.ownsRow base 5 1 v l.length (bys l)) : ∃ A c, v = .slice A l.length c ∧ Bs w A l.length c l := by
  rcases h.2 with ⟨rfl, h0⟩ | ⟨g, cap, cur, rfl, hB, hg, hnc, hcm, _⟩
  · refine ⟨none, 0, by rw [h0], Row.own (e := 5) (base := base) (c := 0) (show w.ownsRow _ _ 1 (.slice none l.length 0) l.length _ from (by rw [h0] at h ⊢; exact h)), rfl, by omega, by decide⟩
  · exact ⟨_, cap, rfl, Row.own h, rfl, hnc, by unfold maxLen at hcm; omega⟩
theorem al' {B : Nat} {w a : World} (h : Below B w a) (o : Obj) (hB : B ≤ w.heap.size := by exact Nat.le_refl _) : Below B w (a.alloc o) := h.alloc (Nat.le_trans hB h.size) o
theorem infoItem : (Try.prog.info? 47).map (fun i => (i.zero, i.size, i.bytes)) = some (some (.agg #[.int .i64 0, .int .i64 0, .slice none 0 0]), 3, 40) := by kernel_rfl
theorem cells3_new (w : World) (x y z : Value) (t : TypeId) : ∀ j u, [x, y, z][j]? = some u → (w.alloc (.cells #[x, y, z] t)).cell? ((⟨w.heap.size, 0, none⟩ : Addr).add j) = some u := by
  intro j u hu
  have e2 : (⟨w.heap.size, 0, none⟩ : Addr).add j = ⟨w.heap.size, j, none⟩ := by unfold Addr.add; split <;> simp_all
  rw [e2, World.cell?_alloc_at _ _ _ _ (by simp)]
  simpa using hu
/-- What a round of All begins with. -/
def AllX (w : World) (B : Nat) (pre : List Iv) (x : Iv) (a' : Act) (W : World) : Prop := ((∃ v, Boxed W w.heap.size 43 v ∧ W.ownsRow w.heap.size 47 3 v pre.length (ivcAll pre) ∧ True) ∧ Below w.heap.size w W) ∧ (∃ Bx, Cel W Bx 47 #[.int .i64 (x.it.p : Int), .int .i64 (x.it.s : Int), x.v] ∧ a' = { tmps := #[.pointer (some ⟨B, 0, none⟩), undef, .slice none 0 0, .pointer (some ⟨w.heap.size, 0, none⟩), .pointer (some ⟨Bx, 0, none⟩), .pointer (some ⟨B, 0, none⟩), .func (.func 43) #[] #[.pointer (some ⟨w.heap.size + 1, 0, none⟩)], ivv x, undef, undef, undef, undef, undef], defers := [] }) ∧ (pre ++ [x]).length ≤ 16384 ∧ ∃ A' n' c', x.v = .slice A' n' c'
set_option maxRecDepth 100000 in
set_option maxHeartbeats 2000000 in
theorem all_h (nb B : Nat) (L : List (List Sl)) (w : World) (h : HP w nb B L) :
    Calls Try.prog 14 #[.pointer (some ⟨B, 0, none⟩)] w fun e w' => ∃ A c, e = .returned (.slice A (allH L).length c) ∧ IL 47 w' A (allH L).length (allH L) ∧ Below w.heap.size w w' := by
  obtain ⟨i0, hi, hz0, hz1, hz2⟩ := info_parts infoItem
  refine (callsIn_wide (n := 5)).1 ?_
  refine callsIn_of_wp_marks Try.func14 rfl trivial ?_ rfl
  simp only [Try.ntmps14, List.size_toArray, List.length_cons, List.length_nil, Nat.reduceAdd, Nat.reduceSub, Array.replicate_succ, Array.replicate_zero, List.push_toArray, List.append_toArray, List.nil_append, List.cons_append]
  gi_wp2_with (refine ⟨trivial, ?_⟩; gi_at_call 26; refine (callsIn_wide.2 (items_any _ _)).mono ?_; rintro e w' ⟨rfl, rfl⟩)
  have bO := Boxed.new w 43 (.slice none 0 0)
  have bP := Boxed.new (w.alloc (.cells #[.slice none 0 0] 43)) 23 (.pointer (some ⟨B, 0, none⟩))
  rw [World.size_alloc] at bP
  have hB0 : Below w.heap.size w ((w.alloc (.cells #[.slice none 0 0] 43)).alloc (.cells #[.pointer (some ⟨B, 0, none⟩)] 23)) := al (al (Below.refl _ _) _) _
  have hlen : (allH L).length ≤ 64 * 256 := by
    have h1 := allH_len L L.length h.ok.each
    have h2 := h.ok.few
    unfold allH
    omega
  refine wp_each (by omega) rfl (enters_of Try.func43 (by kernel_rfl) rfl) (items_each 4 (by omega) (w.heap.size + 1) nb B L w _ h bP (by omega) hB0) (fun x => rfl) ki_t (ki_b (w := ((w.alloc (.cells #[.slice none 0 0] 43)).alloc (.cells #[.pointer (some ⟨B, 0, none⟩)] 23))) (by simp; omega))
    (fun pre W => (∃ v, Boxed W w.heap.size 43 v ∧ W.ownsRow w.heap.size 47 3 v pre.length (ivcAll pre) ∧ True) ∧ Below w.heap.size w W)
    ⟨OwnFrom.and (Own.from (holdsRow_own w.heap.size w.heap.size 43 47 3 (fun pre : List Iv => pre.length) (fun pre => ivcAll pre) (fun pre v => True)) _) (ownFrom_below (Nat.le_refl _) (by simp; omega)), fun pre A C ⟨⟨v, hv, hr, _⟩, hB⟩ hb => ⟨⟨v, (hb.block _ hv.lt).trans hv, row_blw hr hb, trivial⟩, hB.trans (hb.mono hB.size)⟩⟩
    (gx_own L _ _) ⟨⟨_, bO.alloc _, World.ownsRow_nil _ _ _ _, trivial⟩, hB0⟩
    (AllX w B)
    (fun pre x => OwnFrom.and (OwnFrom.and (Own.from (fun s X Y row hs hg hr => holdsRow_own w.heap.size w.heap.size 43 47 3 (fun pre : List Iv => pre.length) (fun pre => ivcAll pre) (fun pre v => True) pre X Y row hs hg hr) _) (ownFrom_below (Nat.le_refl _) (by simp; omega))) (OwnFrom.and (Own.from (fun s X Y row ⟨Bx, hs, e⟩ hg hr => ⟨Bx, Cel.own hs hg hr, e⟩) _) (OwnFrom.and (ownFrom_pure _ _) (ownFrom_pure _ _)))) ?assign ?body ?done
  case assign =>
    intro l pre x W hI hGx
    have hfew := hGx.few
    have hxv := hGx.1 x (by simp)
    obtain ⟨A4, c4, e4⟩ := row_slice hxv
    obtain ⟨it, xv⟩ := x
    simp only at e4
    subst e4
    simp only [ivv]
    gi_wp2
    refine ⟨(KeepsOthers.alloc _ _).from _, ki_alloc hI.2.size _, ⟨?_, al' hI.2 _⟩, ⟨W.heap.size, World.alloc_heap_new _ _, by simp [ivv]⟩, by omega, _, _, _, rfl⟩
    obtain ⟨v, hv, hr, _⟩ := hI.1
    exact ⟨v, hv.alloc _, hr.alloc _, trivial⟩
  case body =>
    rintro l pre x a' W ⟨⟨⟨v, hv, hrow, _⟩, hB⟩, ⟨Bx, hx, rfl⟩, hle, A4, n4, c4, e4⟩
    obtain ⟨⟨p, s, d⟩, xv⟩ := x
    simp only at e4 hx
    subst e4
    obtain ⟨⟨c0, c1, c2⟩, _⟩ := hx.three
    have hc := hv.cell
    have hle' : pre.length ≤ 16384 := by rw [List.length_append] at hle; omega
    have hs1 : w.heap.size ≤ w.heap.size := Nat.le_refl _
    clear hx
    gi_wp2_with (gi_at_builtin; refine wpListIn_append_own _ rfl _ _ 43 rfl w.heap.size 47 i0 _ 3 40 Try.underlying43 hi hz0 hz1 hz2 rfl (by decide) _ _ _ rfl (hrow.alloc _) ⟨W.heap.size, 0, none⟩ 1 1 [.int .i64 (p : Int), .int .i64 (s : Int), .slice A4 n4 c4] rfl rfl (cells3_new _ _ _ _ _) (by simp [Value.oneCell']) (by unfold maxLen; omega) (by omega) (by have := hB.size; simp; omega) ?_; intro v' w2 hown' hgrow _; obtain ⟨g', cap', rfl⟩ := ownsRow_succ hown'; obtain ⟨hv1, hv2, hr2, hk2, hb2⟩ := hv.appended (by decide) hrow hB.size hs1 hown' hgrow; have hc1 := hv1.cell; have hf1 := hv1.frozen)
    refine ⟨hk2.from _, ⟨hb2, fun j cs t fr hj ht hu => ?_⟩, ⟨_, hv2, ?_, trivial⟩, hB.trans hb2⟩
    · show (w2.heap.modify w.heap.size _)[j]? = _
      rw [Array.getElem?_modify, if_neg (by omega)]
      have hne : t ≠ 47 := by
        rcases ht with e | e | e <;> (rw [e]; decide)
      exact ((hgrow.block j (by have := blk_lt hu; simp; omega) (not_row hu hne hrow)).trans (Below.heap_alloc W _ j (blk_lt hu))).trans hu
    · have e1 : (pre ++ [(⟨⟨p, s, d⟩, .slice A4 n4 c4⟩ : Iv)]).length = pre.length + 1 := by simp
      rw [e1, ivcAll_snoc]
      exact hr2
  case done =>
    rintro D xs W hD hS hGx ⟨⟨v, hv, hrow, _⟩, hB⟩ hK
    have hc := hv.cell
    have hl : xs.length = (allH L).length := by
      have := congrArg List.length hS
      rwa [List.length_map] at this
    gi_wp2
    refine ⟨by simp, .inl ⟨_, _, rfl, run_takeDeferred hK, ?_⟩⟩
    obtain ⟨A, c, rfl⟩ := row_slice hrow
    rw [hl] at hrow
    have hrow2 := ownsRow_putObj hrow (.deferred none) hK rfl
    have hG2 := gx_own L (w.heap.size + 1) w.heap.size xs _ _ (some D) hGx (grownBy_putObj' W D (.deferred none)) (fun r e => by cases e; exact ⟨by simp at hD; omega, _, hK, rfl⟩)
    refine ⟨_, results_tmp rfl _ _ _, A, c, by rw [← hl]; rfl, ⟨xs, hS, rfl, (own3 hrow2).1, (own3 hrow2).2, fun x hx => bytes_row (hG2.1 x hx)⟩, fin_below hB (by simp at hD; omega) hK rfl rfl⟩
end Go.Proofs.Ythcilmlaoddckaa.Pg
