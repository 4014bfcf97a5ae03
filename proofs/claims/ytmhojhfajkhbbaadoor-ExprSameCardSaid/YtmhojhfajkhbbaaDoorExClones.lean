import Derived.Test.YtmhojhfajkhbbaaDoorExOwn
import Derived.Test.YtmhojhfajkhbbaaDoorExMems
import Derived.Test.YtmhojhfajkhbbaaDoorMemCel
import Derived.Deep.RegionHeld3
import Derived.Deep.CutRange
import Derived.Laws.ResultCell
/- A list of trees, copied (slices.Clone): the row is the call's own, the kids' kids are the old ones. -/
namespace Go.Proofs.YtmhojhfajkhbbaaDoor.Ep
open Go.RowKit Go.Proofs.YtmhojhfajkhbbaaDoor.Mem Go.Proofs.YtmhojhfajkhbbaaDoor.Right
set_option linter.unusedVariables false

/-- The cells of a list of trees, one behind the other. -/
theorem flat_kids {w : World} {S : Nat → Prop} {A : Option Addr} : ∀ {l : List Ex} {j0 : Nat}, KidsIn w S A j0 l → ∃ css : List (List Value), css.length = l.length ∧ (∀ cs ∈ css, cs.length = 7) ∧
    (∀ (j : Nat) (x : Ex) (cs : List Value), l[j]? = some x → css[j]? = some cs → ExIn w S x cs) ∧ (∀ b o, A = some ⟨b, o, none⟩ → ∀ (m : Nat) (u : Value), css.flatten[m]? = some u → w.cell? ⟨b, o + j0 * 7 + m, none⟩ = some u) ∧ (l ≠ [] → ∃ b o, A = some ⟨b, o, none⟩)
  | [], _, _ => ⟨[], rfl, by simp, fun j x cs h => by simp at h, fun b o _ m u h => by simp at h, fun h => absurd rfl h⟩
  | x :: l, j0, h => by
    obtain ⟨⟨b, o, cs, hA, hb, hl, hc, hx⟩, hr⟩ := (kidsIn_cons _ _ _ _ _ _).1 h
    obtain ⟨css, h1, h2, h3, h4, _⟩ := flat_kids hr
    refine ⟨cs :: css, by simp [h1], fun c hcm => ?_, fun j y ds hj hd => ?_, fun b' o' hA' m u hu => ?_, fun _ => ⟨b, o, hA⟩⟩
    · rcases List.mem_cons.1 hcm with rfl | hcm
      · exact hl
      · exact h2 c hcm
    · cases j with
      | zero => simp at hj hd; subst hj hd; exact hx
      | succ j => exact h3 j y ds (by simpa using hj) (by simpa using hd)
    · rw [hA] at hA'
      injection hA' with e
      injection e with e1 e2 e3
      subst e1 e2
      rw [List.flatten_cons] at hu
      by_cases hm : m < 7
      · rw [List.getElem?_append_left (by omega)] at hu
        exact hc m u hu
      · rw [List.getElem?_append_right (by omega), hl] at hu
        have := h4 b o hA (m - 7) u hu
        rw [show o + (j0 + 1) * 7 + (m - 7) = o + j0 * 7 + m by omega] at this
        exact this
theorem elemEx : ElemK Tryd.prog 24 26 7 88 :=
  ElemK.of (z := .agg #[.int .i64 0, .int .i64 0, .int .i64 0, .int .i64 0, .string ⟨#[]⟩, .string ⟨#[]⟩, .slice none 0 0]) Tryd.underlying24 (by kernel_rfl) (by decide) (by decide)
/-- The copy: its row, and what lies there. -/
def Copy (S : Nat → Prop) (n0 : Nat) (w : World) (v : Value) (l : List Ex) : Prop :=
  ∃ A c g, v = .slice A l.length c ∧ l.length ≤ c ∧ c ≤ maxLen ∧ (A = none → c = 0) ∧ (l ≠ [] → A = some ⟨g, 0, none⟩ ∧ n0 ≤ g ∧ (∃ cur, Cel w g 26 cur ∧ l.length * 7 ≤ cur.size) ∧
    ∀ (j : Nat) (y : Ex), l[j]? = some y → ∃ ds, ds.length = 7 ∧ (∀ i u, ds[i]? = some u → w.cell? ⟨g, j * 7 + i, none⟩ = some u) ∧ ExIn w S y ds)
theorem Copy.none_ (S : Nat → Prop) (n0 : Nat) (w : World) : Copy S n0 w (.slice none 0 0) [] := ⟨none, 0, 0, rfl, Nat.zero_le _, Nat.zero_le _, fun _ => rfl, fun h => absurd rfl h⟩
theorem wp_copy {w : World} {S : Nat → Prop} {n0 : Nat} (hS : ∀ b, S b → b < n0) {l : List Ex} {A : Option Addr} {c g : Nat} {ops : Array Oper} {rest : List Oper} {o : Oper} {a : Act} {Q : Exit → Act → World → Prop} (s y : Operand)
    (hgd : o.guard = none) (ho : o.op = .call { callee := .builtin .append, args := #[s, y], argTypes := #[24, 24] })
    (hs : a.eval s = .slice (some ⟨g, 0, none⟩) 0 0) (hown : Cel w g 26 #[]) (hg : n0 ≤ g) {ad : Addr} (hA : A = some ad) (hy : a.eval y = .slice A l.length c) (hr : KidsIn w S A 0 l) (hn : l.length ≤ 1000)
    (h : ∀ v' w', Copy S n0 w' v' l → Below n0 w w' → wpList Tryd.prog ops Q rest (a.put o.dst v') w') : wpList Tryd.prog ops Q (o :: rest) a w := by
  obtain ⟨css, h1, h2, h3, h4, h5⟩ := flat_kids hr
  obtain ⟨i, z, ht, hi, hz, hz1, hz2, hzc, _⟩ := elemEx
  have hfl : css.flatten.length = l.length * 7 := by rw [flatk_len h2, h1]
  have hne : l = [] ∨ ∃ b o', ad = ⟨b, o', none⟩ := by
    cases l with
    | nil => exact .inl rfl
    | cons x r =>
      obtain ⟨b, o', e⟩ := h5 (by simp)
      rw [hA] at e
      injection e with e
      exact .inr ⟨b, o', e⟩
  have hO : w.ownsRow n0 26 7 (.slice (some ⟨g, 0, none⟩) 0 0) 0 [] := ⟨rfl, .inr ⟨g, 0, #[], rfl, hg, hown, Nat.le_refl _, Nat.zero_le _, rfl, rfl⟩⟩
  have hgs := hown.lt
  subst hA
  refine wpList_append_own_at _ hgd s y 24 ho n0 26 i z 7 88 ht hi hz hz1 hz2 hzc (by decide) _ 0 [] hs hO ad l.length c css.flatten hy hfl ?_ ?_ (by unfold maxLen; omega) (by omega) (by omega) fun v' w' g1 g2 _ g3 => h v' w' ?_ ?_
  · intro j u hu
    rcases hne with rfl | ⟨b, o', rfl⟩
    · simp at hfl
      have := (List.getElem?_eq_some_iff.1 hu).1
      simp [hfl] at this
    · have := h4 b o' rfl j u hu
      have e2 : (⟨b, o', none⟩ : Addr).add j = ⟨b, o' + j, none⟩ := by unfold Addr.add; split <;> simp_all
      rw [e2]
      rw [show o' + 0 * 7 + j = o' + j by omega] at this
      exact this
  · intro u hu
    obtain ⟨cs, hcs, huc⟩ := List.mem_flatten.1 hu
    obtain ⟨j, hj, rfl⟩ := List.getElem_of_mem hcs
    obtain ⟨x, hx⟩ := kid_some (l := l) (j := j) (by omega)
    exact (h3 j x _ hx (List.getElem?_eq_getElem hj)).one u huc
  · rw [List.nil_append, Nat.zero_add] at g1
    have hgb : ∀ b, S b → b < w.heap.size ∧ some b ≠ (Value.slice (some ⟨g, 0, none⟩) 0 0).ownBlock := fun b hb => ⟨by have := hS b hb; omega, fun e => by
      have := hS b hb
      simp [Value.ownBlock] at e
      omega⟩
    rcases g1.2 with ⟨rfl, h0⟩ | ⟨g', cap, cur, rfl, hbg, hcel, hcap, hmx, hsz, htk⟩
    · have : l = [] := List.length_eq_zero_iff.1 h0
      subst this
      exact Copy.none_ _ _ _
    · refine ⟨_, cap, g', rfl, hcap, hmx, (fun e => by cases e), fun _ => ⟨rfl, hbg, ⟨cur, hcel, by have := hcap; rw [hsz]; omega⟩, fun j y hy => ?_⟩⟩
      have hj := (List.getElem?_eq_some_iff.1 hy).1
      have hcs : css[j]? = some css[j] := List.getElem?_eq_getElem (by omega)
      refine ⟨css[j], h2 _ (List.getElem_mem _), fun i u hu => ?_, ExIn.to (fun _ h => h) (fun p hp => World.cell?_of_block (g2.block p.block (hgb _ hp).1 (hgb _ hp).2)) y _ (h3 j y _ hy hcs)⟩
      have := g1.cells (g := g') rfl _ _ (flatk_at h2 hcs hu)
      have e2 : (⟨g', 0, none⟩ : Addr).add (j * 7 + i) = ⟨g', j * 7 + i, none⟩ := by unfold Addr.add; split <;> simp_all
      rw [e2] at this
      exact this
  · exact (Below.refl n0 w).grown g2 (by omega) (fun k hk => by
      simp [Value.ownBlock] at hk
      omega)
set_option maxRecDepth 20000 in
set_option maxHeartbeats 1000000 in
theorem copy_any (S : Nat → Prop) (l : List Ex) (A : Option Addr) (c : Nat) (w : World) (hS : ∀ b, S b → b < w.heap.size) (h : KidsIn w S A 0 l) (hA : A = none → c = 0) (hlc : l.length ≤ c) (hn : l.length ≤ 1000) :
    Calls Tryd.prog 12 #[.slice A l.length c] w fun e w' => ∃ v, e = .returned v ∧ Copy S w.heap.size w' v l ∧ Below w.heap.size w w' := by
  cases A with
  | none =>
    have hc := hA rfl
    have hl : l = [] := List.length_eq_zero_iff.1 (by omega)
    subst hc hl
    have t0 : ∀ w0 : World, (binOp .eql 24 (.slice none 0 0) (.slice none 0 0)).run Tryd.prog w0 = .ok (.bool true) w0 := fun w0 => Lib.run_eql_slice_nil w0 _ _ none 0 0 0 0 Tryd.underlying24
    go_enter Tryd.func12, Tryd.ntmps12
    go_wp2
    go_ret
    exact ⟨_, rfl, Copy.none_ _ _ _, Below.refl _ _⟩
  | some a =>
    obtain ⟨n, hln⟩ : ∃ n, l.length = n := ⟨_, rfl⟩
    have t0 : ∀ w0 : World, (binOp .eql 24 (.slice (some a) n c) (.slice none 0 0)).run Tryd.prog w0 = .ok (.bool false) w0 := fun w0 => Lib.run_eql_slice_nil w0 _ _ (some a) n c 0 0 Tryd.underlying24
    have HW := Lib.hid (show ∀ W, w.alloc (.cells #[] 26) = W → Cel W w.heap.size 26 #[] ∧ KidsIn W S (some a) 0 l ∧ Below w.heap.size w W from fun W hW => by
      subst hW
      exact ⟨Cel.new w _ _ rfl, KidsIn.to (fun _ h => h) (fun p hp => (al (Below.refl _ _) _).cell (hS _ hp)) h, al (Below.refl _ _) _⟩)
    rw [hln]
    have HN := Lib.hid hln
    have HS := Lib.hid hS
    have HNN := Lib.hid hn
    clear h hA hlc hln hn hS
    go_enter Tryd.func12, Tryd.ntmps12
    go_wp2_with (at_builtin; refine wp_copy HS.out (n0 := w.heap.size) (l := l) (.tmp 5) (.tmp 6) rfl rfl rfl (HW.out _ rfl).1 (Nat.le_refl _) rfl (by rw [HN.out]; rfl) (HW.out _ rfl).2.1 HNN.out ?_; intro v w2 hc2 hb2; have HC2 := Lib.hid hc2; have HB2 := Lib.hid ((HW.out _ rfl).2.2.trans hb2); clear hc2 hb2)
    go_ret
    exact ⟨_, rfl, HC2.out, HB2.out⟩
end Go.Proofs.YtmhojhfajkhbbaaDoor.Ep
/- A tree, cloned (expr.Clone): all its rows are the call's own. -/
namespace Go.Proofs.YtmhojhfajkhbbaaDoor.Ep
open Go.RowKit Go.Proofs.YtmhojhfajkhbbaaDoor.Mem Go.Proofs.YtmhojhfajkhbbaaDoor.Right
set_option linter.unusedVariables false

theorem undrew {B : Nat} {w w1 : World} (h : Below B w.drew w1) : Below B w w1 := ⟨h.os, h.tape, h.output, h.size, h.block⟩
theorem results_one {fn : Func} {p : Tmp} {ty : TypeId} (h : fn.results = #[.cell p ty]) (tmps : Array Value) (P : Program) (w : World) :
    (results fn tmps).run P w = ((asAddr (tmps.getD p undef)).run P w).andThen fun a w₁ => (loadVar ty a).run P w₁ := by
  simp only [results, h]
  simp [Sem.run_bind, Result.andThen]
/-- A row of trees that may be written. -/
def OpenB (w : World) (b : Nat) : Prop := ∃ cur, Cel w b tE cur
theorem OpenB.lt {w : World} {b : Nat} (h : OpenB w b) : b < w.heap.size := by obtain ⟨_, h⟩ := h; exact h.lt
theorem OpenB.below {w w' : World} {b : Nat} (h : OpenB w b) (hb : Below w.heap.size w w') : OpenB w' b := by obtain ⟨c, h⟩ := h; exact ⟨c, h.below hb⟩
/-- What a clone is: its row stands in a block from n0 on, the kids' rows behind that. -/
def Cl (n0 : Nat) (w : World) (x : Ex) (cs : List Value) : Prop :=
  ∃ k o vk vn vs nm kids A c g, x = .mk k o vk vn vs nm kids ∧ cs = [.int .i64 k, .int .i64 o, .int .i64 vk, .int .i64 vn, .string (txt vs), .string (txt nm), .slice A kids.length c] ∧ kids.length ≤ c ∧ c ≤ maxLen ∧ (A = none → c = 0) ∧
    (kids ≠ [] → A = some ⟨g, 0, none⟩ ∧ n0 ≤ g ∧ OpenB w g ∧ ∀ (j : Nat) (y : Ex), kids[j]? = some y → ∃ ds, ds.length = 7 ∧ (∀ i u, ds[i]? = some u → w.cell? ⟨g, j * 7 + i, none⟩ = some u) ∧ ExIn w (fun b => g < b ∧ OpenB w b) y ds)
theorem Cl.in_ {n0 : Nat} {w : World} {x : Ex} {cs : List Value} (h : Cl n0 w x cs) : ExIn w (fun b => n0 ≤ b ∧ OpenB w b) x cs := by
  obtain ⟨k, o, vk, vn, vs, nm, kids, A, c, g, rfl, rfl, h1, h2, h3, h4⟩ := h
  refine (exIn_mk _ _ _ _ _ _ _ _ _ _).2 ⟨A, c, rfl, h1, h2, h3, KidsIn.of fun j y hy => ?_⟩
  have hne : kids ≠ [] := fun e => by subst e; simp at hy
  obtain ⟨rfl, hg, ho, hk⟩ := h4 hne
  obtain ⟨ds, hl, hc, hx⟩ := hk j y hy
  refine ⟨g, 0, ds, rfl, ⟨hg, ho⟩, hl, fun i u hu => ?_, ExIn.more hx fun b hb => ⟨by omega, hb.2⟩⟩
  rw [show 0 + (0 + j) * 7 + i = j * 7 + i by omega]
  exact hc i u hu
theorem Cl.below {n0 : Nat} {w w' : World} {x : Ex} {cs : List Value} (h : Cl n0 w x cs) (hb : Below w.heap.size w w') : Cl n0 w' x cs := by
  obtain ⟨k, o, vk, vn, vs, nm, kids, A, c, g, rfl, rfl, h1, h2, h3, h4⟩ := h
  refine ⟨k, o, vk, vn, vs, nm, kids, A, c, g, rfl, rfl, h1, h2, h3, fun hne => ?_⟩
  obtain ⟨rfl, hg, ho, hk⟩ := h4 hne
  refine ⟨rfl, hg, ho.below hb, fun j y hy => ?_⟩
  obtain ⟨ds, hl, hc, hx⟩ := hk j y hy
  exact ⟨ds, hl, fun i u hu => (hb.cell (p := ⟨g, _, none⟩) ho.lt).trans (hc i u hu), ExIn.to (fun b hb' => ⟨hb'.1, hb'.2.below hb⟩) (fun p hp => hb.cell hp.2.lt) y ds hx⟩
/-! ### Seven cells written -/
def put7 (w : World) (g q : Nat) (v0 v1 v2 v3 v4 v5 v6 : Value) : World :=
  ((((((w.setCell ⟨g, q, none⟩ v0).setCell ⟨g, q + 1, none⟩ v1).setCell ⟨g, q + 2, none⟩ v2).setCell ⟨g, q + 3, none⟩ v3).setCell ⟨g, q + 4, none⟩ v4).setCell ⟨g, q + 5, none⟩ v5).setCell ⟨g, q + 6, none⟩ v6
section
variable {w : World} {g q : Nat} {v0 v1 v2 v3 v4 v5 v6 : Value}
theorem put7_cel {t : TypeId} {cur : Array Value} (h : Cel w g t cur) (hq : q + 7 ≤ cur.size) : ∃ cur', Cel (put7 w g q v0 v1 v2 v3 v4 v5 v6) g t cur' ∧ cur'.size = cur.size ∧
    (∀ i u, [v0, v1, v2, v3, v4, v5, v6][i]? = some u → cur'[q + i]? = some u) ∧ ∀ m, (m < q ∨ q + 7 ≤ m) → cur'[m]? = cur[m]? := by
  refine ⟨_, ((((((h.set q v0).set (q + 1) v1).set (q + 2) v2).set (q + 3) v3).set (q + 4) v4).set (q + 5) v5).set (q + 6) v6, by simp, fun i u hu => ?_, fun m hm => ?_⟩
  · have hi := (List.getElem?_eq_some_iff.1 hu).1
    simp only [List.length_cons, List.length_nil] at hi
    match i, hi, hu with
    | 0, _, hu => simp at hu; subst hu; simp [Array.getElem?_setIfInBounds]; omega
    | 1, _, hu => simp at hu; subst hu; simp [Array.getElem?_setIfInBounds]; omega
    | 2, _, hu => simp at hu; subst hu; simp [Array.getElem?_setIfInBounds]; omega
    | 3, _, hu => simp at hu; subst hu; simp [Array.getElem?_setIfInBounds]; omega
    | 4, _, hu => simp at hu; subst hu; simp [Array.getElem?_setIfInBounds]; omega
    | 5, _, hu => simp at hu; subst hu; simp [Array.getElem?_setIfInBounds]; omega
    | 6, _, hu => simp at hu; subst hu; simp [Array.getElem?_setIfInBounds]; omega
  · simp only [Array.getElem?_setIfInBounds]
    rw [if_neg (by omega), if_neg (by omega), if_neg (by omega), if_neg (by omega), if_neg (by omega), if_neg (by omega), if_neg (by omega)]
theorem put7_oth {b : Nat} (hb : b ≠ g) : (put7 w g q v0 v1 v2 v3 v4 v5 v6).heap[b]? = w.heap[b]? := by
  unfold put7
  simp only [Below.heap_setCell _ ⟨g, _, none⟩ _ b hb]
theorem put7_size : (put7 w g q v0 v1 v2 v3 v4 v5 v6).heap.size = w.heap.size := by
  unfold put7; simp
theorem Cel.put_other {B : Nat} {t : TypeId} {cur : Array Value} (h : Cel w B t cur) (hB : B ≠ g) : Cel (put7 w g q v0 v1 v2 v3 v4 v5 v6) B t cur := (put7_oth hB).trans h
theorem put7_below {n0 : Nat} {a : World} (h : Below n0 a w) (hg : n0 ≤ g) : Below n0 a (put7 w g q v0 v1 v2 v3 v4 v5 v6) :=
  ((((((h.setCell (p := ⟨g, _, none⟩) hg v0).setCell (p := ⟨g, _, none⟩) hg v1).setCell (p := ⟨g, _, none⟩) hg v2).setCell (p := ⟨g, _, none⟩) hg v3).setCell (p := ⟨g, _, none⟩) hg v4).setCell (p := ⟨g, _, none⟩) hg v5).setCell (p := ⟨g, _, none⟩) hg v6
end
/-! ### On the way -/
/-- The first j kids are clones, the others the old ones. -/
def Mid (n0 g : Nat) (l : List Ex) (j : Nat) (w : World) : Prop :=
  (∃ cur, Cel w g tE cur ∧ l.length * 7 ≤ cur.size) ∧ ∀ (i : Nat) (y : Ex), l[i]? = some y → ∃ ds, ds.length = 7 ∧ (∀ m u, ds[m]? = some u → w.cell? ⟨g, i * 7 + m, none⟩ = some u) ∧
    (i < j → ExIn w (fun b => g < b ∧ OpenB w b) y ds) ∧ (j ≤ i → ExIn w (fun b => b < n0) y ds)
theorem Mid.below {n0 g j : Nat} {l : List Ex} {w w' : World} (h : Mid n0 g l j w) (hn : n0 ≤ w.heap.size) (hb : Below w.heap.size w w') : Mid n0 g l j w' := by
  obtain ⟨⟨cur, hc, hs⟩, h2⟩ := h
  refine ⟨⟨cur, hc.below hb, hs⟩, fun i y hy => ?_⟩
  obtain ⟨ds, hl, hcell, h3, h4⟩ := h2 i y hy
  exact ⟨ds, hl, fun m u hu => (hb.cell (p := ⟨g, _, none⟩) hc.lt).trans (hcell m u hu), fun hi => ExIn.to (fun b hb' => ⟨hb'.1, hb'.2.below hb⟩) (fun p hp => hb.cell hp.2.lt) y ds (h3 hi), fun hi => ExIn.to (fun _ h => h) (fun p hp => hb.cell (by omega)) y ds (h4 hi)⟩
theorem Mid.put {n0 g j : Nat} {l : List Ex} {w : World} {y : Ex} {v0 v1 v2 v3 v4 v5 v6 : Value} (h : Mid n0 g l j w) (hg : n0 ≤ g) (hy : l[j]? = some y) (hx : ExIn w (fun b => g < b ∧ OpenB w b) y [v0, v1, v2, v3, v4, v5, v6]) :
    Mid n0 g l (j + 1) (put7 w g (j * 7) v0 v1 v2 v3 v4 v5 v6) := by
  obtain ⟨⟨cur, hc, hs⟩, h2⟩ := h
  have hj := (List.getElem?_eq_some_iff.1 hy).1
  obtain ⟨cur', g1, g2, g3, g4⟩ := put7_cel (v0 := v0) (v1 := v1) (v2 := v2) (v3 := v3) (v4 := v4) (v5 := v5) (v6 := v6) (q := j * 7) hc (by omega)
  have hop : ∀ b, (g < b ∧ OpenB w b) → (g < b ∧ OpenB (put7 w g (j * 7) v0 v1 v2 v3 v4 v5 v6) b) := fun b ⟨hb, cb, hcb⟩ => ⟨hb, cb, (put7_oth (by omega)).trans hcb⟩
  have hcell : ∀ p : Addr, p.block ≠ g → (put7 w g (j * 7) v0 v1 v2 v3 v4 v5 v6).cell? p = w.cell? p := fun p hp => World.cell?_of_block (put7_oth hp)
  refine ⟨⟨cur', g1, by omega⟩, fun i z hz => ?_⟩
  by_cases hij : i = j
  · subst hij
    rw [hy] at hz
    injection hz with hz
    subst hz
    exact ⟨_, rfl, fun m u hu => by rw [g1.at_]; exact g3 m u hu, fun _ => ExIn.to hop (fun p hp => hcell p (by have := hp.1; omega)) y _ hx, fun hi => by omega⟩
  · obtain ⟨ds, hl, hce, h3, h4⟩ := h2 i z hz
    refine ⟨ds, hl, fun m u hu => ?_, fun hi => ExIn.to hop (fun p hp => hcell p (by have := hp.1; omega)) z ds (h3 (by omega)), fun hi => ExIn.to (fun _ h => h) (fun p hp => hcell p (by omega)) z ds (h4 (by omega))⟩
    have hm := (List.getElem?_eq_some_iff.1 hu).1
    rw [g1.at_, g4 _ (by omega), ← hc.at_]
    exact hce m u hu
end Go.Proofs.YtmhojhfajkhbbaaDoor.Ep
/- A tree, cloned (expr.Clone): the walk. -/
namespace Go.Proofs.YtmhojhfajkhbbaaDoor.Ep
open Go.RowKit Go.Proofs.YtmhojhfajkhbbaaDoor.Mem Go.Proofs.YtmhojhfajkhbbaaDoor.Right
set_option linter.unusedVariables false

/-- What a call of Clone leaves. -/
def CloneC (x : Ex) : Prop := ∀ (cs : List Value) (w : World), ExAt w w.heap.size x cs → size x ≤ 1000 →
  Calls Tryd.prog 6 #[.agg cs.toArray] w fun e w' => ∃ cs', e = .returned (.agg (List.toArray cs')) ∧ Cl w.heap.size w' x cs' ∧ Below w.heap.size w w'
/-- A copied list, on the way: nothing is cloned yet. -/
theorem Copy.mid {n0 n1 : Nat} {w : World} {v : Value} {l : List Ex} {A : Option Addr} {c g : Nat} (hc : ∃ cur, Cel w g tE cur ∧ l.length * 7 ≤ cur.size)
    (h : ∀ (j : Nat) (y : Ex), l[j]? = some y → ∃ ds, ds.length = 7 ∧ (∀ i u, ds[i]? = some u → w.cell? ⟨g, j * 7 + i, none⟩ = some u) ∧ ExIn w (fun b => b < n0) y ds) : Mid n0 g l 0 w :=
  ⟨hc, fun i y hy => by
    obtain ⟨ds, h1, h2, h3⟩ := h i y hy
    exact ⟨ds, h1, h2, fun hi => by omega, fun _ => h3⟩⟩
theorem Mid.other {n0 g j b i : Nat} {l : List Ex} {w : World} {v : Value} (h : Mid n0 g l j w) (hb : b ≠ g) (hn : n0 ≤ b) (hj : j = 0) : Mid n0 g l j (w.setCell ⟨b, i, none⟩ v) := by
  subst hj
  obtain ⟨⟨cur, hc, hs⟩, h2⟩ := h
  refine ⟨⟨cur, hc.other hb i v, hs⟩, fun m y hy => ?_⟩
  obtain ⟨ds, hl, hcell, h3, h4⟩ := h2 m y hy
  have hk : ∀ p : Addr, p.block ≠ b → (w.setCell ⟨b, i, none⟩ v).cell? p = w.cell? p := fun p hp => World.cell?_of_block (Below.heap_setCell _ ⟨b, i, none⟩ _ _ hp)
  exact ⟨ds, hl, fun q u hu => (hk _ (fun e => hb e.symm)).trans (hcell q u hu), fun hi => by omega, fun hi => ExIn.to (fun _ h => h) (fun p hp => hk p (by omega)) y ds (h4 hi)⟩
/-- All kids are clones: what the call hands back. -/
theorem cl_done {n0 g b q c : Nat} {k o vk vn : Int} {vs nm : List UInt8} {kids : List Ex} {A : Option Addr} {w : World} {v0 v1 v2 v3 v4 v5 v6 : Value} (hA : kids ≠ [] → A = some ⟨g, 0, none⟩ ∧ b < g ∧ n0 ≤ g) (hM : kids ≠ [] → Mid n0 g kids kids.length w)
    (h1 : kids.length ≤ c) (h2 : c ≤ maxLen) (h3 : A = none → c = 0) :
    Cl n0 (put7 w b q v0 v1 v2 v3 v4 v5 v6) (.mk k o vk vn vs nm kids) [.int .i64 k, .int .i64 o, .int .i64 vk, .int .i64 vn, .string (txt vs), .string (txt nm), .slice A kids.length c] := by
  refine ⟨k, o, vk, vn, vs, nm, kids, A, c, g, rfl, rfl, h1, h2, h3, fun hne => ?_⟩
  obtain ⟨hA, hb, hg⟩ := hA hne
  obtain ⟨⟨cur, hc, _⟩, hk⟩ := hM hne
  have hcell : ∀ p : Addr, p.block ≠ b → (put7 w b q v0 v1 v2 v3 v4 v5 v6).cell? p = w.cell? p := fun p hp => World.cell?_of_block (put7_oth hp)
  refine ⟨hA, hg, ⟨cur, (put7_oth (by omega)).trans hc⟩, fun j y hy => ?_⟩
  obtain ⟨ds, hl, hce, hx, _⟩ := hk j y hy
  exact ⟨ds, hl, fun i u hu => (hcell _ (by show g ≠ b; omega)).trans (hce i u hu), ExIn.to (fun e ⟨he, ce, hce⟩ => ⟨he, ce, (put7_oth (by omega)).trans hce⟩) (fun p hp => hcell p (by have := hp.1; omega)) y ds (hx (List.getElem?_eq_some_iff.1 hy).1)⟩
set_option maxRecDepth 20000 in
set_option maxHeartbeats 4000000 in
theorem clone_any : ∀ (x : Ex), CloneC x := by
  refine Ex.byKids fun k o vk vn vs nm kids ih cs w h hz => ?_
  obtain ⟨A, n, c, rfl, hn, hnc, hcm, hA, hk⟩ := ex_open h
  rw [size] at hz
  have hlen := sizeL_len kids
  obtain ⟨W, hW⟩ : ∃ W, (w.alloc (.cells #[.int .i64 k, .int .i64 o, .int .i64 vk, .int .i64 vn, .string (txt vs), .string (txt nm), .slice A n c] 26)).alloc (.cells #[.int .i64 0, .int .i64 0, .int .i64 0, .int .i64 0, .string ⟨#[]⟩, .string ⟨#[]⟩, .slice none 0 0] 26) = W := ⟨_, rfl⟩
  have hb : Below w.heap.size w W := by rw [← hW]; exact al (al (Below.refl _ _) _) _
  have hsz : W.heap.size = w.heap.size + 2 := by rw [← hW]; simp
  have x1 : Cel W w.heap.size tE #[.int .i64 k, .int .i64 o, .int .i64 vk, .int .i64 vn, .string (txt vs), .string (txt nm), .slice A n c] := by rw [← hW]; exact (Cel.new w _ _ rfl).alloc _
  have x2 : Cel W (w.heap.size + 1) tE #[.int .i64 0, .int .i64 0, .int .i64 0, .int .i64 0, .string ⟨#[]⟩, .string ⟨#[]⟩, .slice none 0 0] := by rw [← hW]; exact Cel.new _ _ _ (by simp)
  have HB := Lib.hid hb
  have HSZ := Lib.hid hsz
  have HX1 := Lib.hid x1
  have HX2 := Lib.hid x2
  have HZ := Lib.hid hz
  have HLEN := Lib.hid hlen
  have HCC := Lib.hid (show Calls Tryd.prog 12 #[.slice A n c] W fun e w' => ∃ A3 c3, e = .returned (.slice A3 n c3) ∧ Copy (fun b => b < w.heap.size) W.heap.size w' (.slice A3 n c3) kids ∧ Below W.heap.size W w' from by
    rw [hn]
    refine (copy_any (fun b => b < w.heap.size) kids A c W (fun b hb' => by omega) (KidsIn.to (fun _ h => h) (fun p hp => hb.cell hp) hk) hA hnc (by omega)).mono ?_
    rintro e w' ⟨v, rfl, h1, h2⟩
    have h1' := h1
    obtain ⟨A3, c3, g, rfl, _⟩ := h1
    exact ⟨A3, c3, rfl, h1', h2⟩)
  have c6 := x1.at_ 6
  have HI := Lib.hid ih
  have HN := Lib.hid hn
  have HNB := Lib.hid (show n ≤ 1000 by omega)
  clear h hk hz hlen hb hsz x1 x2 ih hA hnc hcm hn
  go_enter Tryd.func6, Tryd.ntmps6
  go_upto_region 2 with (go_at_call 12; (with_reducible refine HCC.out.mono ?_); rintro e w3 ⟨A3, c3, rfl, hcp, hb3⟩; have HCP := Lib.hid hcp; have HB3 := Lib.hid hb3; have HY1 := Lib.hid (HX1.out.below hb3); have HY2 := Lib.hid (HX2.out.below hb3); have f6 := HY1.out.open_ 6; have z6 := HY1.out.at_ 6; clear hcp hb3)
  clear hW c6
  obtain ⟨W4, hW4⟩ : ∃ W4, w3.setCell ⟨w.heap.size, 6, none⟩ (.slice A3 n c3) = W4 := ⟨_, rfl⟩
  rw [hW4]
  have h4 := HCP.out
  obtain ⟨A3', c3', g, e3, hl3, hm3, hA3, hg3⟩ := h4
  rw [← HN.out] at e3 hl3
  injection e3 with e3 _ e3'
  subst e3 e3'
  have HZ1 := Lib.hid (show Cel W4 w.heap.size tE #[.int .i64 k, .int .i64 o, .int .i64 vk, .int .i64 vn, .string (txt vs), .string (txt nm), .slice A3 n c3] by rw [← hW4]; exact HY1.out.set 6 _)
  have HZ2 := Lib.hid (show Cel W4 (w.heap.size + 1) tE #[.int .i64 0, .int .i64 0, .int .i64 0, .int .i64 0, .string ⟨#[]⟩, .string ⟨#[]⟩, .slice none 0 0] by rw [← hW4]; exact HY2.out.other (by omega) _ _)
  have HB4 := Lib.hid (show Below w.heap.size w W4 by rw [← hW4]; exact (Mem.on HB.out HB3.out).setCell (p := ⟨w.heap.size, 6, none⟩) (Nat.le_refl _) _)
  have HG := Lib.hid (show kids ≠ [] → A3 = some ⟨g, 0, none⟩ ∧ w.heap.size + 2 ≤ g from fun hne => by
    obtain ⟨h1, h2, _⟩ := hg3 hne
    exact ⟨h1, by have := HSZ.out; omega⟩)
  have HMD := Lib.hid (show kids ≠ [] → Mid w.heap.size g kids 0 W4 from fun hne => by
    obtain ⟨h1, h2, h3, h4⟩ := hg3 hne
    rw [← hW4]
    exact Mid.other (Copy.mid (v := .slice A3 n c3) (A := A3) (c := c3) (n1 := 0) h3 h4) (by have := HSZ.out; omega) (Nat.le_refl _) rfl)
  have HC3 := Lib.hid (show n ≤ c3 ∧ c3 ≤ maxLen ∧ (A3 = none → c3 = 0) from ⟨hl3, hm3, hA3⟩)
  clear hW4 hl3 hm3 hA3 hg3 f6 z6
  have q6 := HZ1.out.at_ 6
  go_wp2
  go_loopw [12] (fun i wr => ∃ j : Nat, j ≤ n ∧ i = .int .i64 (j : Int) ∧ Hid (kids ≠ [] → Mid w.heap.size g kids j wr) ∧ Hid (Cel wr w.heap.size tE #[.int .i64 k, .int .i64 o, .int .i64 vk, .int .i64 vn, .string (txt vs), .string (txt nm), .slice A3 n c3]) ∧
    Hid (Cel wr (w.heap.size + 1) tE #[.int .i64 0, .int .i64 0, .int .i64 0, .int .i64 0, .string ⟨#[]⟩, .string ⟨#[]⟩, .slice none 0 0]) ∧ Hid (Below w.heap.size w wr)) (fun i _ => n + 1 - (intOf i).toNat)
  case atStart => exact ⟨0, Nat.zero_le _, rfl, HMD, HZ1, HZ2, HB4⟩
  case round =>
    obtain ⟨j, hj, rfl, HM, HE1, HE2, HBR⟩ := hrel
    by_cases hlt : j < n
    · have hne : kids ≠ [] := fun e => by have := HN.out; subst e; simp at this; omega
      obtain ⟨rfl, hg⟩ := HG.out hne
      have hm := HM.out hne
      obtain ⟨y, hy⟩ := kid_some (l := kids) (j := j) (by have := HN.out; omega)
      obtain ⟨⟨cur, hcur, hcs⟩, hks⟩ := hm
      obtain ⟨ds, hl7, hce, _, hold⟩ := hks j y hy
      have hyy := hold (Nat.le_refl _)
      have hye := hyy
      obtain ⟨k', o', vk', vn', vs', nm', ks'⟩ := y
      obtain ⟨A', n', c', rfl, -⟩ := ex_open hyy
      have c0 := hce 0 _ rfl
      have c1 := hce 1 _ rfl
      have c2 := hce 2 _ rfl
      have c3' := hce 3 _ rfl
      have c4 := hce 4 _ rfl
      have c5 := hce 5 _ rfl
      have c6 := hce 6 _ rfl
      rw [Nat.add_zero] at c0
      have r6 := HE1.out.at_ 6
      have tl : decide ((j : Int) < (n : Int)) = true := decide_eq_true (by omega)
      obtain ⟨W5, hW5⟩ : ∃ W5, wr.alloc (.cells #[.int .i64 k', .int .i64 o', .int .i64 vk', .int .i64 vn', .string (txt vs'), .string (txt nm'), .slice A' n' c'] 26) = W5 := ⟨_, rfl⟩
      have hb5 : Below wr.heap.size wr W5 := by rw [← hW5]; exact al (Below.refl _ _) _
      have hx5 : Cel W5 wr.heap.size tE #[.int .i64 k', .int .i64 o', .int .i64 vk', .int .i64 vn', .string (txt vs'), .string (txt nm'), .slice A' n' c'] := by rw [← hW5]; exact Cel.new wr _ _ rfl
      have HC := Lib.hid (show Calls Tryd.prog 6 #[exV k' o' vk' vn' (txt vs') (txt nm') A' n' c'] W5.drew fun e w' => ∃ cs', e = .returned (.agg (List.toArray cs')) ∧ Cl W5.drew.heap.size w' (.mk k' o' vk' vn' vs' nm' ks') cs' ∧ Below W5.drew.heap.size W5.drew w' from
        HI.out _ (kid_mem hy) _ W5.drew (ExIn.to (fun b hb => by
          have h1 := HBR.out.size
          have h2 := hb5.size
          show b < W5.heap.size
          omega) (fun p hp => hb5.drew.cell (Nat.lt_of_lt_of_le hp HBR.out.size)) _ _ hye) (by have := sizeL_mem (kid_mem hy); have := HZ.out; omega))
      have HS5 := Lib.hid (show W5.heap.size = wr.heap.size + 1 by rw [← hW5]; simp)
      have HK := Lib.hid (show ∀ W2, Below W5.drew.heap.size W5.drew W2 → (W2.cell? ⟨w.heap.size, 6, none⟩ = some (.slice (some ⟨g, 0, none⟩) n c3)) ∧ W2.cell? ⟨wr.heap.size, 0, none⟩ = some (.int .i64 k') ∧ W2.cell? ⟨wr.heap.size, 1, none⟩ = some (.int .i64 o') ∧ W2.cell? ⟨wr.heap.size, 2, none⟩ = some (.int .i64 vk') ∧ W2.cell? ⟨wr.heap.size, 3, none⟩ = some (.int .i64 vn') ∧
          W2.cell? ⟨wr.heap.size, 4, none⟩ = some (.string (txt vs')) ∧ W2.cell? ⟨wr.heap.size, 5, none⟩ = some (.string (txt nm')) ∧ W2.cell? ⟨wr.heap.size, 6, none⟩ = some (.slice A' n' c') from fun W2 hW => by
        have h1 := hx5.below (undrew hW)
        have h2 := (HE1.out.below hb5).below (undrew hW)
        exact ⟨h2.at_ 6, h1.at_ 0, h1.at_ 1, h1.at_ 2, h1.at_ 3, h1.at_ 4, h1.at_ 5, h1.at_ 6⟩)
      have HM5 := Lib.hid ((HM.out hne).below HBR.out.size hb5)
      have HE15 := Lib.hid (HE1.out.below hb5)
      have HE25 := Lib.hid (HE2.out.below hb5)
      have HB5 := Lib.hid (HBR.out.trans (hb5.mono HBR.out.size))
      have HY := Lib.hid hy
      have HG2 := Lib.hid (show w.heap.size + 2 ≤ g ∧ g < wr.heap.size from ⟨hg, hcur.lt⟩)
      have HNE := Lib.hid hne
      have HCU := Lib.hid (show j * 7 + 7 ≤ cur.size ∧ Cel W5 g tE cur from ⟨by have := HN.out; omega, hcur.below hb5⟩)
      obtain ⟨q6, p0, p1, p2, p3, p4, p5, p6⟩ := HK.out W5.drew (Below.refl _ _)
      clear hcur hcs hks hl7 hce hold hyy hye hb5 hx5 hne hy hg
      go_upto_region 5 with fail
      clear hW5 c0 c1 c2 c3' c4 c5 c6 r6
      --REGION
      refine wp_region_noPanic ?_
      refine wp_region_held_drew (S := (fun Wx => Wx.cell? ⟨w.heap.size, 6, none⟩ = some (.slice (some ⟨g, 0, none⟩) n c3) ∧ Wx.cell? ⟨wr.heap.size, 0, none⟩ = some (.int .i64 k') ∧ Wx.cell? ⟨wr.heap.size, 1, none⟩ = some (.int .i64 o') ∧ Wx.cell? ⟨wr.heap.size, 2, none⟩ = some (.int .i64 vk') ∧ Wx.cell? ⟨wr.heap.size, 3, none⟩ = some (.int .i64 vn') ∧ Wx.cell? ⟨wr.heap.size, 4, none⟩ = some (.string (txt vs')) ∧ Wx.cell? ⟨wr.heap.size, 5, none⟩ = some (.string (txt nm')) ∧ Wx.cell? ⟨wr.heap.size, 6, none⟩ = some (.slice A' n' c'))) (by kernel_rfl) ?_ (fun hHeld => ?_)
      · exact ⟨q6, p0, p1, p2, p3, p4, p5, p6⟩
      refine wpAnyH_take (i := 0) (v := ?_) rfl (by kernel_rfl) (by kernel_rfl) (by kernel_rfl) (fun _ _ _ h => h) (Or.inl ⟨by rfl, ?_⟩) (by assumption) ?_
      rotate_left
      · intro w' hSw; (try dsimp only at hSw); (try simp only [List.getElem_toArray, List.getElem_cons_zero]); go_simp; (try with_reducible rfl)
      (try simp only [List.getElem_toArray, List.getElem_cons_zero, Act.put, List.setIfInBounds_toArray, List.set_cons_zero, List.set_cons_succ])
      refine wpAnyH_take (i := 1) (v := ?_) rfl (by kernel_rfl) (by kernel_rfl) (by kernel_rfl) (fun _ _ _ h => h) (Or.inl ⟨by rfl, ?_⟩) (by assumption) ?_
      rotate_left
      · intro w' hSw; (try dsimp only at hSw); (try simp only [List.getElem_toArray, List.getElem_cons_succ, List.getElem_cons_zero]); go_simp; (try with_reducible rfl)
      (try simp only [List.getElem_toArray, List.getElem_cons_succ, List.getElem_cons_zero, Act.put, List.setIfInBounds_toArray, List.set_cons_zero, List.set_cons_succ])
      refine wpAnyH_take (i := 2) (v := ?_) rfl (by kernel_rfl) (by kernel_rfl) (by kernel_rfl) (fun _ _ _ h => h) (Or.inl ⟨by rfl, ?_⟩) (by assumption) ?_
      rotate_left
      · intro w' hSw; (try dsimp only at hSw); (try simp only [List.getElem_toArray, List.getElem_cons_succ, List.getElem_cons_zero]); go_simp; (try with_reducible rfl)
      (try simp only [List.getElem_toArray, List.getElem_cons_succ, List.getElem_cons_zero, Act.put, List.setIfInBounds_toArray, List.set_cons_zero, List.set_cons_succ])
      refine wpAnyH_take (i := 3) (v := ?_) rfl (by kernel_rfl) (by kernel_rfl) (by kernel_rfl) (fun _ _ _ h => h) (Or.inl ⟨by rfl, ?_⟩) (by assumption) ?_
      rotate_left
      · intro w' hSw; (try dsimp only at hSw); (try simp only [List.getElem_toArray, List.getElem_cons_succ, List.getElem_cons_zero]); go_simp; (try with_reducible rfl)
      (try simp only [List.getElem_toArray, List.getElem_cons_succ, List.getElem_cons_zero, Act.put, List.setIfInBounds_toArray, List.set_cons_zero, List.set_cons_succ])
      refine wpAnyH_ready (rs := [4]) (by kernel_rfl) (by simp) ?_
      refine AllReadyH.cons rfl (fun K hK => ?_) AllReadyH.nil
      go_simp
      go_at_call 6; (with_reducible refine HC.out.mono ?_); rintro e w2 ⟨cs2, rfl, hcl, hb2⟩; obtain ⟨k2, o2, vk2, vn2, vs2, nm2, ks2, A2, c2, g2, -, rfl, -⟩ := id hcl; have HCL := Lib.hid hcl; have HB2 := Lib.hid (undrew hb2); have HKW := Lib.hid (HK.out w2 hb2); clear hcl hb2
      (try go_wp2_with fail)
      refine hK.out _ _ ?_ (fun hHeld => ?_)
      · exact HKW.out
      clear hK K
      (try simp only [List.getElem_toArray, List.getElem_cons_succ, List.getElem_cons_zero, Act.put, List.setIfInBounds_toArray, List.set_cons_zero, List.set_cons_succ])
      refine wpAnyH_ready (rs := [5]) (by kernel_rfl) (by simp) ?_
      refine AllReadyH.cons rfl (fun K hK => ?_) AllReadyH.nil
      go_simp
      refine hK.out _ _ ?_ (fun hHeld => ?_)
      · exact hHeld
      clear hK K
      (try simp only [List.getElem_toArray, List.getElem_cons_succ, List.getElem_cons_zero, Act.put, List.setIfInBounds_toArray, List.set_cons_zero, List.set_cons_succ])
      have HCW := Lib.hid (HCU.out.2.below HB2.out)
      have f0 := HCW.out.open_ (j * 7)
      have g0' := HCW.out.at_ (j * 7)
      have f1 := HCW.out.open_ (j * 7 + 1)
      have g1' := HCW.out.at_ (j * 7 + 1)
      have f2 := HCW.out.open_ (j * 7 + 2)
      have g2' := HCW.out.at_ (j * 7 + 2)
      have f3 := HCW.out.open_ (j * 7 + 3)
      have g3' := HCW.out.at_ (j * 7 + 3)
      have f4 := HCW.out.open_ (j * 7 + 4)
      have g4' := HCW.out.at_ (j * 7 + 4)
      have f5 := HCW.out.open_ (j * 7 + 5)
      have g5' := HCW.out.at_ (j * 7 + 5)
      have f6 := HCW.out.open_ (j * 7 + 6)
      have g6' := HCW.out.at_ (j * 7 + 6)
      rw [Array.getElem?_eq_getElem (by have := HCU.out.1; omega)] at g0' g1' g2' g3' g4' g5' g6'
      have hk := fun (p : Addr) (hp : p.block ≠ g) => (World.cell?_of_block (put7_oth (w := w2) (q := j * 7) (v0 := .int .i64 k2) (v1 := .int .i64 o2) (v2 := .int .i64 vk2) (v3 := .int .i64 vn2) (v4 := .string (txt vs2)) (v5 := .string (txt nm2)) (v6 := .slice A2 ks2.length c2) hp) : _)
      have HSD := Lib.hid (show _ from And.intro ((hk ⟨w.heap.size, 6, none⟩ (by have := HG2.out.1; show w.heap.size ≠ g; omega)).trans HKW.out.1) (And.intro ((hk ⟨wr.heap.size, 0, none⟩ (by have := HG2.out.2; show wr.heap.size ≠ g; omega)).trans HKW.out.2.1) (And.intro ((hk ⟨wr.heap.size, 1, none⟩ (by have := HG2.out.2; show wr.heap.size ≠ g; omega)).trans HKW.out.2.2.1) (And.intro ((hk ⟨wr.heap.size, 2, none⟩ (by have := HG2.out.2; show wr.heap.size ≠ g; omega)).trans HKW.out.2.2.2.1) (And.intro ((hk ⟨wr.heap.size, 3, none⟩ (by have := HG2.out.2; show wr.heap.size ≠ g; omega)).trans HKW.out.2.2.2.2.1) (And.intro ((hk ⟨wr.heap.size, 4, none⟩ (by have := HG2.out.2; show wr.heap.size ≠ g; omega)).trans HKW.out.2.2.2.2.2.1) (And.intro ((hk ⟨wr.heap.size, 5, none⟩ (by have := HG2.out.2; show wr.heap.size ≠ g; omega)).trans HKW.out.2.2.2.2.2.2.1) ((hk ⟨wr.heap.size, 6, none⟩ (by have := HG2.out.2; show wr.heap.size ≠ g; omega)).trans HKW.out.2.2.2.2.2.2.2))))))))
      clear hk
      refine wpAnyH_ready (rs := [6]) (by kernel_rfl) (by simp) ?_
      refine AllReadyH.cons rfl (fun K hK => ?_) AllReadyH.nil
      go_simp
      refine hK.out _ _ ?_ (fun hHeld => ?_)
      · exact HSD.out
      clear hK K
      (try simp only [List.getElem_toArray, List.getElem_cons_succ, List.getElem_cons_zero, Act.put, List.setIfInBounds_toArray, List.set_cons_zero, List.set_cons_succ])
      refine wpAnyH_done (by kernel_rfl) ?_ _
      refine NoPanic.normal ?_
      --NOIGER
      have HST := Lib.hid ((HM5.out.below (by have := HBR.out.size; have := HS5.out; omega) HB2.out).put (by have := HG2.out.1; omega) HY.out (ExIn.more HCL.out.in_ fun b hb => ⟨by
        have h1 := HG2.out.2
        have h2 := HS5.out
        have h3 : W5.heap.size ≤ b := hb.1
        omega, hb.2⟩))
      have hnb : n ≤ 1000 := HNB.out
      go_wp2
      go_roundw
      case rel => exact ⟨j + 1, by omega, by have := HNB.out; go_num, Lib.hid fun _ => HST.out, Lib.hid (Cel.put_other (HE15.out.below HB2.out) (by have := HG2.out.1; omega)), Lib.hid (Cel.put_other (HE25.out.below HB2.out) (by have := HG2.out.1; omega)), Lib.hid (put7_below (HB5.out.trans (HB2.out.mono HB5.out.size)) (by have := HG2.out.1; omega))⟩
      case measure => have := HNB.out; simp [intOf]; omega
    · have tl : decide ((j : Int) < (n : Int)) = false := decide_eq_false (by omega)
      obtain rfl : j = n := by omega
      have r0 := HE1.out.at_ 0
      have r1 := HE1.out.at_ 1
      have r2 := HE1.out.at_ 2
      have r3 := HE1.out.at_ 3
      have r4 := HE1.out.at_ 4
      have r5 := HE1.out.at_ 5
      have r6 := HE1.out.at_ 6
      have s0 := HE2.out.open_ 0
      have s1 := HE2.out.open_ 1
      have s2 := HE2.out.open_ 2
      have s3 := HE2.out.open_ 3
      have s4 := HE2.out.open_ 4
      have s5 := HE2.out.open_ 5
      have s6 := HE2.out.open_ 6
      have u0 := HE2.out.at_ 0
      have u1 := HE2.out.at_ 1
      have u2 := HE2.out.at_ 2
      have u3 := HE2.out.at_ 3
      have u4 := HE2.out.at_ 4
      have u5 := HE2.out.at_ 5
      have u6 := HE2.out.at_ 6
      go_wp2
      refine bodyPost_ret (v := .agg #[.int .i64 k, .int .i64 o, .int .i64 vk, .int .i64 vn, .string (txt vs), .string (txt nm), .slice A3 j c3]) ?_ rfl ?_
      · rw [results_one rfl]
        go_simp
      have hcl := cl_done (b := w.heap.size + 1) (q := 0) (k := k) (o := o) (vk := vk) (vn := vn) (vs := vs) (nm := nm) (v0 := .int .i64 k) (v1 := .int .i64 o) (v2 := .int .i64 vk) (v3 := .int .i64 vn) (v4 := .string (txt vs)) (v5 := .string (txt nm)) (v6 := .slice A3 j c3) (n0 := w.heap.size) (A := A3) (c := c3)
        (fun hne => ⟨(HG.out hne).1, by have := (HG.out hne).2; omega, by have := (HG.out hne).2; omega⟩) (fun hne => by have := HM.out hne; rw [← HN.out]; exact this) (by have := HC3.out.1; have := HN.out; omega) HC3.out.2.1 HC3.out.2.2
      rw [← HN.out] at hcl
      exact ⟨_, rfl, hcl, put7_below (g := w.heap.size + 1) (q := 0) HBR.out (Nat.le_succ _)⟩
end Go.Proofs.YtmhojhfajkhbbaaDoor.Ep
/- A clone is written: what its rows hold while numbers in it turn. -/
namespace Go.Proofs.YtmhojhfajkhbbaaDoor.Ep
open Go.RowKit Go.Proofs.YtmhojhfajkhbbaaDoor.Mem Go.Proofs.YtmhojhfajkhbbaaDoor.Right
set_option linter.unusedVariables false

theorem set_at {w : World} {b i : Nat} {v : Value} (hO : OpenB w b) (q : Addr) (hq : q = ⟨b, i, none⟩) (h : ∃ x : Int, w.cell? q = some (.int .i64 x)) (y : Int) (hv : v = .int .i64 y) : ∃ x : Int, (w.setCell ⟨b, i, none⟩ v).cell? q = some (.int .i64 x) := by
  subst hq hv
  obtain ⟨cur, hc⟩ := hO
  obtain ⟨x, hx⟩ := h
  have hs : i < cur.size := by
    rw [hc.at_ i] at hx
    exact (Array.getElem?_eq_some_iff.1 hx).1
  exact ⟨y, by rw [(hc.set i _).at_ i]; simp [hs]⟩
theorem set_else {w : World} {b i : Nat} {v : Value} (hO : OpenB w b) (c o : Nat) (hne : c ≠ b ∨ o ≠ i) : (w.setCell ⟨b, i, none⟩ v).cell? ⟨c, o, none⟩ = w.cell? ⟨c, o, none⟩ := by
  by_cases h : c = b
  · subst h
    obtain ⟨cur, hc⟩ := hO
    rw [(hc.set i v).at_ o, hc.at_ o, Array.getElem?_setIfInBounds]
    rw [if_neg (by rcases hne with h | h <;> omega)]
  · exact World.cell?_of_block (Below.heap_setCell _ ⟨b, i, none⟩ _ _ h)
theorem set_int {w : World} {b i : Nat} {v : Value} (hO : OpenB w b) (c o : Nat) (h : ∃ x : Int, w.cell? ⟨c, o, none⟩ = some (.int .i64 x)) (y : Int) (hv : v = .int .i64 y) : ∃ x : Int, (w.setCell ⟨b, i, none⟩ v).cell? ⟨c, o, none⟩ = some (.int .i64 x) := by
  by_cases e : c = b ∧ o = i
  · obtain ⟨rfl, rfl⟩ := e
    exact set_at hO _ rfl h y hv
  · rw [set_else hO c o (by omega)]; exact h
theorem set_open {w : World} {b i c : Nat} {v : Value} (h : OpenB w c) : OpenB (w.setCell ⟨b, i, none⟩ v) c := by
  obtain ⟨cur, hc⟩ := h
  by_cases e : c = b
  · subst e; exact ⟨_, hc.set i v⟩
  · exact ⟨cur, hc.other (fun g => e g.symm) i v⟩
/-- The kids of a tree. -/
def kidsOf : Ex → List Ex
  | .mk _ _ _ _ _ _ ks => ks
/-- A kid's kids' numbers. -/
def Grand (w : World) (g hi : Nat) (y : Ex) (A : Option Addr) : Prop := ∀ j, j < (kidsOf y).length → ∃ b p, A = some ⟨b, p, none⟩ ∧ g < b ∧ b < hi ∧ OpenB w b ∧ ∃ x : Int, w.cell? ⟨b, p + j * 7 + 1, none⟩ = some (.int .i64 x)
/-- What may be written: the kids' kinds, their kids' signs. -/
def Mut (w : World) (g hi : Nat) (l : List Ex) : Prop := g < hi ∧ OpenB w g ∧ ∀ (k : Nat) (y : Ex), l[k]? = some y → (∃ x : Int, w.cell? ⟨g, k * 7, none⟩ = some (.int .i64 x)) ∧
  ∃ A c, w.cell? ⟨g, k * 7 + 6, none⟩ = some (.slice A (kidsOf y).length c) ∧ Grand w g hi y A
theorem Grand.set {w : World} {g hi b i : Nat} {y : Ex} {A : Option Addr} (h : Grand w g hi y A) (hO : OpenB w b) (x : Int) : Grand (w.setCell ⟨b, i, none⟩ (.int .i64 x)) g hi y A := fun j hj => by
  obtain ⟨b', p, e, h1, h2, h3, h4⟩ := h j hj
  exact ⟨b', p, e, h1, h2, set_open h3, set_int hO _ _ h4 x rfl⟩
/-- A kid's kind turns. -/
theorem Mut.kind {w : World} {g hi : Nat} {l : List Ex} (h : Mut w g hi l) (k : Nat) (x : Int) : Mut (w.setCell ⟨g, k * 7, none⟩ (.int .i64 x)) g hi l := by
  obtain ⟨h0, h1, h2⟩ := h
  refine ⟨h0, set_open h1, fun k' y hy => ?_⟩
  obtain ⟨h3, A, c, h4, h5⟩ := h2 k' y hy
  exact ⟨set_int h1 _ _ h3 x rfl, A, c, by rw [set_else h1 g (k' * 7 + 6) (by omega)]; exact h4, h5.set h1 x⟩
/-- A kid's kid's sign turns. -/
theorem Mut.sign {w : World} {g hi b i : Nat} {l : List Ex} (h : Mut w g hi l) (hb : g < b) (hO : OpenB w b) (x : Int) : Mut (w.setCell ⟨b, i, none⟩ (.int .i64 x)) g hi l := by
  obtain ⟨h0, h1, h2⟩ := h
  refine ⟨h0, set_open h1, fun k' y hy => ?_⟩
  obtain ⟨h3, A, c, h4, h5⟩ := h2 k' y hy
  exact ⟨set_int hO _ _ h3 x rfl, A, c, by rw [set_else hO g (k' * 7 + 6) (by omega)]; exact h4, h5.set hO x⟩
theorem Mut.below {w w' : World} {g hi : Nat} {l : List Ex} (h : Mut w g hi l) (hb : Below w.heap.size w w') : Mut w' g hi l := by
  obtain ⟨h0, h1, h2⟩ := h
  refine ⟨h0, h1.below hb, fun k' y hy => ?_⟩
  obtain ⟨⟨x, h3⟩, A, c, h4, h5⟩ := h2 k' y hy
  refine ⟨⟨x, (hb.cell (cell_lt h3)).trans h3⟩, A, c, (hb.cell (cell_lt h4)).trans h4, fun j hj => ?_⟩
  obtain ⟨b', p, e, g1, g2, g3, x', g4⟩ := h5 j hj
  exact ⟨b', p, e, g1, g2, g3.below hb, x', (hb.cell (cell_lt g4)).trans g4⟩
/-- A clone may be written so. -/
theorem Cl.mut {n0 : Nat} {w : World} {k o vk vn : Int} {vs nm : List UInt8} {kids : List Ex} {A : Option Addr} {n c : Nat} (h : Cl n0 w (.mk k o vk vn vs nm kids) [.int .i64 k, .int .i64 o, .int .i64 vk, .int .i64 vn, .string (txt vs), .string (txt nm), .slice A n c]) (hne : kids ≠ []) :
    ∃ g, A = some ⟨g, 0, none⟩ ∧ n0 ≤ g ∧ Mut w g w.heap.size kids := by
  obtain ⟨k1, o1, vk1, vn1, vs1, nm1, kids1, A1, c1, g, e1, e2, h1, h2, h3, h4⟩ := h
  injection e1 with _ _ _ _ _ _ e1
  subst e1
  obtain ⟨hA, hg, hO, hk⟩ := h4 hne
  simp only [List.cons.injEq, Value.slice.injEq] at e2
  refine ⟨g, by rw [e2.2.2.2.2.2.2.1.1]; exact hA, hg, hO.lt, hO, fun j y hy => ?_⟩
  obtain ⟨ds, hl, hc, hx⟩ := hk j y hy
  obtain ⟨k2, o2, vk2, vn2, vs2, nm2, ks2⟩ := y
  obtain ⟨A2, n2, c2, rfl, hn2, -, -, -, hk2⟩ := ex_open hx
  refine ⟨⟨k2, hc 0 _ rfl⟩, A2, c2, by rw [hc 6 _ rfl, hn2]; rfl, fun i hi => ?_⟩
  obtain ⟨z, hz⟩ := kid_some (l := ks2) (j := i) hi
  obtain ⟨k3, o3, vk3, vn3, vs3, nm3, ks3, A3, n3, c3, b, p, -, e, hb, -, -, d1, -⟩ := kid_at hk2 hz
  exact ⟨b, p, e, hb.1, hb.2.lt, hb.2, o3, d1⟩
end Go.Proofs.YtmhojhfajkhbbaaDoor.Ep
