/- A tree's parameters filled in place: what a call of eval.fill leaves, and a loop over kids Values in the place of parameters: what Fill tells; each parameter is there; how great it  The law in mathematics: with right values in the place of parameters it comes to the same. -/
import Derived.Test.YtbdippgamlknbaaDoorKs39
import Derived.Test.YtbdippgamlknbaaDoorKs28
import Derived.Test.YtbdippgamlknbaaDoorKs29
import Derived.Test.YtbdippgamlknbaaDoorKs36
namespace Go.Proofs.YtbdippgamlknbaaDoor.Eo
open Go.RowKit Go.Proofs.YtbdippgamlknbaaDoor.Mem Go.Proofs.YtbdippgamlknbaaDoor.Right Go.Proofs.YtbdippgamlknbaaDoor.Lx Go.Proofs.YtbdippgamlknbaaDoor.Ep Go.Proofs.YtbdippgamlknbaaDoor.Ev
set_option linter.unusedVariables false
set_option linter.unusedSimpArgs false
mutual
/-- Are all parameters that are used right? -/
def okU (ps : List Vv) : Ex → Bool
  | .mk k o vk vn vs nm kids => if k = 3 then Right.okV (ps.getD (o - 1).toNat nul).k (ps.getD (o - 1).toNat nul).n (ps.getD (o - 1).toNat nul).s else okUL ps kids
def okUL (ps : List Vv) : List Ex → Bool
  | [] => true
  | x :: l => okU ps x && okUL ps l
end
mutual
/-- Each parameter that is used is there. -/
def AtU (n : Nat) : Ex → Prop
  | .mk k o vk vn vs nm kids => (k = 3 → 1 ≤ o ∧ o ≤ (n : Int)) ∧ AtUL n kids
def AtUL (n : Nat) : List Ex → Prop
  | [] => True
  | x :: l => AtU n x ∧ AtUL n l
end
theorem atUL_iff {n : Nat} : ∀ {l : List Ex}, AtUL n l ↔ ∀ x ∈ l, AtU n x
  | [] => by rw [AtUL]; simp
  | x :: l => by rw [AtUL, atUL_iff]; simp
theorem atU_mk (n : Nat) (k o vk vn : Int) (vs nm : List UInt8) (kids : List Ex) : AtU n (.mk k o vk vn vs nm kids) ↔ (k = 3 → 1 ≤ o ∧ o ≤ (n : Int)) ∧ ∀ x ∈ kids, AtU n x := by rw [AtU, atUL_iff]
theorem okUL_iff {ps : List Vv} : ∀ {l : List Ex}, okUL ps l = true ↔ ∀ x ∈ l, okU ps x = true
  | [] => by rw [okUL]; simp
  | x :: l => by rw [okUL, Bool.and_eq_true, okUL_iff]; simp
theorem okU_par (ps : List Vv) (o vk vn : Int) (vs nm : List UInt8) (kids : List Ex) : okU ps (.mk 3 o vk vn vs nm kids) = Right.okV (ps.getD (o - 1).toNat nul).k (ps.getD (o - 1).toNat nul).n (ps.getD (o - 1).toNat nul).s := by rw [okU, if_pos rfl]
theorem okU_kids (ps : List Vv) {k : Int} (h : k ≠ 3) (o vk vn : Int) (vs nm : List UInt8) (kids : List Ex) : okU ps (.mk k o vk vn vs nm kids) = okUL ps kids := by rw [okU, if_neg h]
theorem okUL_no {ps : List Vv} {l : List Ex} {x : Ex} (hx : x ∈ l) (h : okU ps x = false) : okUL ps l = false := by
  cases c : okUL ps l with
  | false => rfl
  | true => rw [okUL_iff.1 c x hx] at h; cases h
theorem fill_par' (ps : List Vv) (o vk vn : Int) (vs nm : List UInt8) (kids : List Ex) : fill ps (.mk 3 o vk vn vs nm kids) = litX (ps.getD (o - 1).toNat nul) := by rw [fill, if_pos rfl]
theorem fill_kids (ps : List Vv) {k : Int} (h : k ≠ 3) (o vk vn : Int) (vs nm : List UInt8) (kids : List Ex) : fill ps (.mk k o vk vn vs nm kids) = .mk k o vk vn vs nm (kids.map (fill ps)) := by rw [fill, if_neg h, fillL_map]
/-- What else stays: all below B; of older blocks those that are not g and not from lo to hi; of block g all but seven cells at q. -/
def Lft (B g q lo hi : Nat) (w w' : World) : Prop :=
  Below B w w' ∧ (∀ b, b < w.heap.size → b ≠ g → (b < lo ∨ hi ≤ b) → w'.heap[b]? = w.heap[b]?) ∧ ∀ cur, Cel w g tE cur → ∃ cur', Cel w' g tE cur' ∧ cur'.size = cur.size ∧ ∀ m, (m < q ∨ q + 7 ≤ m) → cur'[m]? = cur[m]?
/-- What a call of fill leaves. -/
def FilC (ps : List Vv) (B g q lo hi : Nat) (x : Ex) (w : World) (e : Ending) (w' : World) : Prop :=
  e = .returned (.bool (okU ps x)) ∧ Lft B g q lo hi w w' ∧
    (okU ps x = true → ∃ ds, ds.length = 7 ∧ (∀ i u, ds[i]? = some u → w'.cell? ⟨g, q + i, none⟩ = some u) ∧ ExIn w' (fun b => lo ≤ b ∧ b < hi ∨ w.heap.size ≤ b ∧ b < w'.heap.size) (fill ps x) ds)
theorem Lft.cell {B g q lo hi : Nat} {w w' : World} (h : Lft B g q lo hi w w') {cur : Array Value} (hc : Cel w g tE cur) {m : Nat} (hm : m < q ∨ q + 7 ≤ m) : w'.cell? ⟨g, m, none⟩ = w.cell? ⟨g, m, none⟩ := by
  obtain ⟨cur', h1, h2, h3⟩ := h.2.2 cur hc
  rw [h1.at_, hc.at_, h3 m hm]
theorem cel_room {w : World} {g m : Nat} {t : TypeId} {cur : Array Value} {u : Value} (hc : Cel w g t cur) (h : w.cell? ⟨g, m, none⟩ = some u) : m < cur.size := by
  rw [hc.at_] at h
  exact (Array.getElem?_eq_some_iff.1 h).1
/-- The first j kids are filled; the others are as they were, in blocks from m on. -/
def Prg (ps : List Vv) (n0 G hi : Nat) (kids : List Ex) (j : Nat) (w : World) : Prop :=
  ∃ m, G + 1 ≤ m ∧ m ≤ hi ∧ OpenB w G ∧ RnK w G m hi j (kids.drop j) ∧ ∀ (i : Nat) (y : Ex), i < j → kids[i]? = some y → okU ps y = true ∧
    ∃ ds, ds.length = 7 ∧ (∀ r u, ds[r]? = some u → w.cell? ⟨G, i * 7 + r, none⟩ = some u) ∧ ExIn w (fun b => G < b ∧ b < m ∨ n0 ≤ b ∧ b < w.heap.size) (fill ps y) ds
theorem Prg.start {ps : List Vv} {n0 G hi : Nat} {kids : List Ex} {w : World} (h : RnK w G (G + 1) hi 0 kids) (hG : G < hi) (ho : OpenB w G) : Prg ps n0 G hi kids 0 w :=
  ⟨G + 1, Nat.le_refl _, hG, ho, h, fun i y hi => by omega⟩
/-- The next kid's own range and cells. -/
theorem Prg.next {ps : List Vv} {n0 G hi j : Nat} {kids : List Ex} {w : World} {y : Ex} (h : Prg ps n0 G hi kids j w) (hy : kids[j]? = some y) :
    ∃ m mid ds cur, G + 1 ≤ m ∧ m ≤ mid ∧ mid ≤ hi ∧ ds.length = 7 ∧ Cel w G tE cur ∧ j * 7 + 7 ≤ cur.size ∧ (∀ i u, ds[i]? = some u → w.cell? ⟨G, j * 7 + i, none⟩ = some u) ∧ RnN w m mid y ds ∧
      ∀ (B : Nat) (e : Ending) (w' : World), hi ≤ w.heap.size → n0 ≤ w.heap.size → hi ≤ n0 → FilC ps B G (j * 7) m mid y w e w' → okU ps y = true → Prg ps n0 G hi kids (j + 1) w' := by
  obtain ⟨m, h1, h2, ⟨cur, hcur⟩, h3, h4⟩ := h
  have hj := (List.getElem?_eq_some_iff.1 hy).1
  have hd : kids.drop j = y :: kids.drop (j + 1) := by
    rw [List.drop_eq_getElem_cons hj]
    congr 1
    rw [List.getElem?_eq_getElem hj] at hy
    exact Option.some.inj hy
  rw [hd] at h3
  obtain ⟨ds, mid, g1, g2, g3, g4, g5, g6⟩ := (rnK_cons _ _ _ _ _ _ _).1 h3
  have h6 : ∃ u, ds[6]? = some u := ⟨_, List.getElem?_eq_getElem (by omega)⟩
  obtain ⟨u6, h6⟩ := h6
  have hroom := cel_room hcur (g2 6 u6 h6)
  refine ⟨m, mid, ds, cur, h1, g3, g4, g1, hcur, by omega, g2, g5, ?_⟩
  intro B e w' k1 k2 k3 hf hok
  obtain ⟨-, hL, hR⟩ := hf
  have hsz : w.heap.size ≤ w'.heap.size := hL.1.size
  obtain ⟨cur', c1, c2, c3⟩ := hL.2.2 cur hcur
  refine ⟨mid, by omega, g4, ⟨cur', c1⟩, RnK.keep g6 (fun i r hi1 hi2 hr => hL.cell hcur (.inr (by omega))) (fun b b1 b2 b3 => hL.2.1 b b3.lt (by omega) (.inr b1)), fun i z hi1 hz => ?_⟩
  by_cases hij : i = j
  · subst hij
    rw [hy] at hz
    injection hz with hz
    subst hz
    obtain ⟨es, e1, e2, e3⟩ := hR hok
    exact ⟨hok, es, e1, e2, e3.more fun b hb => by omega⟩
  · obtain ⟨ok, es, e1, e2, e3⟩ := h4 i z (by omega) hz
    refine ⟨ok, es, e1, fun r u hu => (hL.cell hcur (.inl ?_)).trans (e2 r u hu), ExIn.to (fun b hb => by omega) (fun p hp => World.cell?_of_block (hL.2.1 _ (by have := hcur.lt; omega) (by have := hcur.lt; omega) (by omega))) _ _ e3⟩
    have := (List.getElem?_eq_some_iff.1 hu).1
    omega
/-- All kids are filled. -/
theorem Prg.done {ps : List Vv} {n0 G hi : Nat} {kids : List Ex} {w : World} (h : Prg ps n0 G hi kids kids.length w) : okUL ps kids = true ∧ KidsIn w (fun b => G ≤ b ∧ b < hi ∨ n0 ≤ b ∧ b < w.heap.size) (some ⟨G, 0, none⟩) 0 (kids.map (fill ps)) := by
  obtain ⟨m, h1, h2, ho, h3, h4⟩ := h
  refine ⟨okUL_iff.2 fun x hx => ?_, KidsIn.of fun j y hy => ?_⟩
  · obtain ⟨i, hi⟩ := List.getElem?_of_mem hx
    exact (h4 i x (List.getElem?_eq_some_iff.1 hi).1 hi).1
  · rw [List.getElem?_map] at hy
    obtain ⟨z, hz, rfl⟩ := Option.map_eq_some_iff.1 hy
    obtain ⟨-, ds, d1, d2, d3⟩ := h4 j z (List.getElem?_eq_some_iff.1 hz).1 hz
    refine ⟨G, 0, ds, rfl, .inl ⟨Nat.le_refl _, by omega⟩, d1, fun r u hu => ?_, d3.more fun b hb => by omega⟩
    rw [show 0 + (0 + j) * 7 + r = j * 7 + r by omega]
    exact d2 r u hu
/-- What else stays on the way over kids: all below B; of older blocks those that are not from lo to hi. -/
def Lf0 (B lo hi : Nat) (w w' : World) : Prop := Below B w w' ∧ ∀ b, b < w.heap.size → (b < lo ∨ hi ≤ b) → w'.heap[b]? = w.heap[b]?
theorem Lf0.refl (B lo hi : Nat) (w : World) : Lf0 B lo hi w w := ⟨Below.refl _ _, fun _ _ _ => rfl⟩
theorem Lf0.lft {B g q lo hi : Nat} {w w' : World} (h : Lf0 B lo hi w w') (hg : g < lo ∨ hi ≤ g) : Lft B g q lo hi w w' :=
  ⟨h.1, fun b b1 _ b3 => h.2 b b1 b3, fun cur hc => ⟨cur, (h.2 g hc.lt hg).trans hc, rfl, fun _ _ => rfl⟩⟩
theorem Lf0.cel {B g lo hi : Nat} {w w' : World} {t : TypeId} {cur : Array Value} (h : Lf0 B lo hi w w') (hg : g < lo ∨ hi ≤ g) (hc : Cel w g t cur) : Cel w' g t cur := (h.2 g hc.lt hg).trans hc
/-- What a kid's call leaves is left for the whole. -/
theorem Lf0.kid {B lo hi G q m mid : Nat} {w0 w w' : World} (h : Lf0 B lo hi w0 w) (h' : Lft B G q m mid w w') (hG : lo ≤ G ∧ G < hi) (hm : lo ≤ m) (hmid : mid ≤ hi) : Lf0 B lo hi w0 w' :=
  ⟨h.1.trans h'.1, fun b b1 b3 => (h'.2.1 b (Nat.lt_of_lt_of_le b1 h.1.size) (by omega) (by omega)).trans (h.2 b b1 b3)⟩
/-- A call that leaves all older blocks. -/
theorem Lft.on {B g q lo hi : Nat} {w0 w w' : World} (h : Lft B g q lo hi w0 w) (hb : Below w.heap.size w w') (hB : B ≤ w.heap.size) : Lft B g q lo hi w0 w' := by
  have hn := h.1.size
  refine ⟨h.1.trans (hb.mono hB), fun b b1 b2 b3 => (hb.block b (by omega)).trans (h.2.1 b b1 b2 b3), fun cur hc => ?_⟩
  obtain ⟨cur', c1, c2, c3⟩ := h.2.2 cur hc
  exact ⟨cur', c1.below hb, c2, c3⟩
/-- A parameter's place, filled. -/
theorem Lft.put {B g q lo hi : Nat} {w w2 : World} {v0 v1 v2 v3 v4 v5 v6 : Value} (hb : Below w.heap.size w w2) (hB : B ≤ g) (hg : g < w.heap.size) {cur0 : Array Value} (hc0 : Cel w g tE cur0) (hq : q + 7 ≤ cur0.size) : Lft B g q lo hi w (put7 w2 g q v0 v1 v2 v3 v4 v5 v6) := by
  refine ⟨put7_below (hb.mono (by omega)) hB, fun b b1 b2 b3 => (put7_oth b2).trans (hb.block b b1), fun cur hc => ?_⟩
  have hc' : Cel w g tE cur0 := hc0
  have he : cur = cur0 := by
    have h1 : w.heap[g]? = _ := hc
    have h2 : w.heap[g]? = _ := hc0
    rw [h1] at h2
    injection h2 with h2
    injection h2
  subst he
  obtain ⟨cur', c1, c2, -, c4⟩ := put7_cel (v0 := v0) (v1 := v1) (v2 := v2) (v3 := v3) (v4 := v4) (v5 := v5) (v6 := v6) (hc.below hb) hq
  exact ⟨cur', c1, c2, c4⟩
end Go.Proofs.YtbdippgamlknbaaDoor.Eo
namespace Go.Proofs.YtbdippgamlknbaaDoor.Eo
open Go.RowKit Go.Proofs.YtbdippgamlknbaaDoor.Mem Go.Proofs.YtbdippgamlknbaaDoor.Right Go.Proofs.YtbdippgamlknbaaDoor.Lx Go.Proofs.YtbdippgamlknbaaDoor.Ep Go.Proofs.YtbdippgamlknbaaDoor.Ev Go.Proofs.YtbdippgamlknbaaDoor.Tk
set_option linter.unusedVariables false
def zx : Ex := .mk 0 0 0 0 [] [] []
/-- What Fill tells. -/
def fillT (ps : List Vv) (x : Ex) : Ex × Int :=
  if checkE true x ≠ 0 then (zx, checkE true x) else if (ps.length : Int) < parE 0 x then (zx, 37) else if okU ps x = false then (zx, 2) else if 8 < hgt (fill ps x) then (zx, 17) else (fill ps x, 0)
mutual
theorem parE_max : ∀ (x : Ex) (m : Int), 0 ≤ m → parE m x = max m (pmax x)
  | .mk k o vk vn vs nm kids, m, h => by
    rw [parE_mk, pmax]
    by_cases c : k = 3
    · rw [if_pos c, if_pos c, parL_max kids _ (by omega)]; omega
    · rw [if_neg c, if_neg c, parL_max kids _ h]; omega
theorem parL_max : ∀ (l : List Ex) (m : Int), 0 ≤ m → parL m l = max m (pmaxL l)
  | [], m, h => by rw [parL, pmaxL]; omega
  | x :: l, m, h => by rw [parL, pmaxL, parE_max x m h, parL_max l _ (by omega)]; omega
end
theorem pmaxL_mem {l : List Ex} {x : Ex} (hx : x ∈ l) : pmax x ≤ pmaxL l := by
  induction l with
  | nil => cases hx
  | cons y l ih =>
    rw [pmaxL]
    rcases List.mem_cons.1 hx with rfl | hx
    · omega
    · have := ih hx; omega
theorem par_none (ps : List Vv) (x : Ex) : parE 0 (fill ps x) = 0 := by
  rw [parE_max _ _ (Int.le_refl _)]
  have := pmax_fill ps x
  omega
theorem at_kids {n : Nat} {k o vk vn : Int} {vs nm : List UInt8} {kids : List Ex} (h : pmax (.mk k o vk vn vs nm kids) ≤ (n : Int)) : (k = 3 → o ≤ (n : Int)) ∧ ∀ x ∈ kids, pmax x ≤ (n : Int) := by
  rw [pmax] at h
  refine ⟨fun c => ?_, fun x hx => ?_⟩
  · rw [if_pos c] at h; omega
  · have := pmaxL_mem hx; omega
/-- What is right has each parameter. -/
theorem atU_of {slots : Bool} {n : Nat} {e : Ex} (h : Rs slots e) : pmax e ≤ (n : Int) → AtU n e := by
  induction h with
  | lit h1 h2 => intro u; exact (atU_mk _ _ _ _ _ _ _ _).2 ⟨fun c => absurd c (by decide), fun x hx => by cases hx⟩
  | col h => intro u; exact (atU_mk _ _ _ _ _ _ _ _).2 ⟨fun c => absurd c (by decide), fun x hx => by cases hx⟩
  | par h1 h2 => intro u; exact (atU_mk _ _ _ _ _ _ _ _).2 ⟨fun c => ⟨h1, (at_kids u).1 rfl⟩, fun x hx => by cases hx⟩
  | un h1 h2 h ih =>
    intro u
    refine (atU_mk _ _ _ _ _ _ _ _).2 ⟨fun c => absurd c (by decide), fun x hx => ?_⟩
    have hu := (at_kids u).2 x hx
    simp only [List.mem_singleton] at hx
    subst hx
    exact ih hu
  | bin h1 h2 h h' ih ih' =>
    intro u
    refine (atU_mk _ _ _ _ _ _ _ _).2 ⟨fun c => absurd c (by decide), fun x hx => ?_⟩
    have hu := (at_kids u).2 x hx
    simp only [List.mem_cons, List.not_mem_nil, or_false] at hx
    rcases hx with rfl | rfl
    · exact ih hu
    · exact ih' hu
  | inn h1 h2 h h' ih ih' =>
    intro u
    refine (atU_mk _ _ _ _ _ _ _ _).2 ⟨fun c => absurd c (by decide), fun x hx => ?_⟩
    have hu := (at_kids u).2 x hx
    rcases List.mem_cons.1 hx with rfl | hx
    · exact ih hu
    · exact ih' x hx hu
  | call h1 h2 h ih =>
    intro u
    exact (atU_mk _ _ _ _ _ _ _ _).2 ⟨fun c => absurd c (by decide), fun x hx => ih x hx ((at_kids u).2 x hx)⟩
  | slot hs h1 h2 => intro u; exact (atU_mk _ _ _ _ _ _ _ _).2 ⟨fun c => absurd c (by decide), fun x hx => by cases hx⟩
theorem check_right {slots : Bool} {e : Ex} (h0 : checkE slots e = 0) : rightB slots e = true := by
  unfold checkE at h0
  split at h0
  · cases h0
  · split at h0
    · rename_i h; exact h
    · cases h0
theorem fill_at {ps : List Vv} {x : Ex} (h0 : checkE true x = 0) (h1 : ¬ (ps.length : Int) < parE 0 x) : AtU ps.length x := by
  rw [parE_max _ _ (Int.le_refl _)] at h1
  exact atU_of (rs_of x (check_right h0)) (by omega)
theorem size_litX (v : Vv) : size (litX v) ≤ 4 := by
  unfold litX
  split
  · unfold lit; rw [size, sizeL]; omega
  split
  · unfold bin un lit
    rw [size, sizeL, sizeL, sizeL, size, size, sizeL, sizeL, sizeL, size, sizeL]; omega
  · unfold un lit
    rw [size, sizeL, sizeL, size, sizeL]; omega
mutual
theorem size_fill (ps : List Vv) : ∀ x : Ex, size (fill ps x) ≤ 4 * size x
  | .mk k o vk vn vs nm kids => by
    rw [fill, size]
    split
    · have := size_litX (ps.getD (o - 1).toNat nul); omega
    · rw [size]
      have := sizeL_fill ps kids
      omega
theorem sizeL_fill (ps : List Vv) : ∀ l : List Ex, sizeL (fillL ps l) ≤ 4 * sizeL l
  | [] => by rw [fillL, sizeL]; omega
  | x :: l => by
    rw [fillL, sizeL, sizeL]
    have h1 := size_fill ps x
    have h2 := sizeL_fill ps l
    omega
end
end Go.Proofs.YtbdippgamlknbaaDoor.Eo
namespace Go.Proofs.YtbdippgamlknbaaDoor.Eo
open Go.RowKit Go.Proofs.YtbdippgamlknbaaDoor.Mem Go.Proofs.YtbdippgamlknbaaDoor.Right Go.Proofs.YtbdippgamlknbaaDoor.Lx Go.Proofs.YtbdippgamlknbaaDoor.Ep Go.Proofs.YtbdippgamlknbaaDoor.Ev Go.Proofs.YtbdippgamlknbaaDoor.Tk
set_option linter.unusedVariables false
theorem okV_two (k n : Int) (l : List UInt8) : Right.okV k n l = Val.okV k n l := rfl
theorem getD_mem {ps : List Vv} {i : Nat} (h : i < ps.length) : ps.getD i nul ∈ ps := by
  rw [List.getD_eq_getElem?_getD, List.getElem?_eq_getElem h]
  exact List.getElem_mem h
theorem uses_of {ps : List Vv} (hp : ∀ v ∈ ps, okP v) : ∀ e : Ex, AtU ps.length e → Uses ps e := by
  refine Ex.byKids fun k o vk vn vs nm kids ih h => ?_
  obtain ⟨h1, h2⟩ := (atU_mk _ _ _ _ _ _ _ _).1 h
  exact (uses_mk _ _ _ _ _ _ _ _).2 ⟨fun c => ⟨(h1 c).1, (h1 c).2, hp _ (getD_mem (by have := h1 c; omega))⟩, fun x hx => ih x hx (h2 x hx)⟩
theorem lim_lit {k n : Int} {s : List UInt8} (h : s.length ≤ 1000000) : Lim (lit k n s) := (lim_mk _ _ _ _ _ _ _).2 ⟨h, by simp, fun x hx => by cases hx⟩
theorem lim_un {o : Int} {a : Ex} (h : Lim a) : Lim (un o a) := (lim_mk _ _ _ _ _ _ _).2 ⟨by simp, by simp, fun x hx => by simp only [List.mem_singleton] at hx; subst hx; exact h⟩
theorem lim_bin {o : Int} {a b : Ex} (h : Lim a) (h' : Lim b) : Lim (bin o a b) := (lim_mk _ _ _ _ _ _ _).2 ⟨by simp, by simp, fun x hx => by
  simp only [List.mem_cons, List.not_mem_nil, or_false] at hx
  rcases hx with rfl | rfl
  · exact h
  · exact h'⟩
theorem lim_litX {v : Vv} (h : v.s.length ≤ 1000000) : Lim (litX v) := by
  unfold litX
  split
  · exact lim_lit h
  split
  · exact lim_bin (lim_un (lim_lit (by simp))) (lim_lit (by simp))
  · exact lim_un (lim_lit (by simp))
theorem wide_lit {k n : Int} {s : List UInt8} (h : i64n n) : Wide (lit k n s) := (wide_mk _ _ _ _ _ _ _).2 ⟨h, fun x hx => by cases hx⟩
theorem wide_un {o : Int} {a : Ex} (h : Wide a) : Wide (un o a) := (wide_mk _ _ _ _ _ _ _).2 ⟨by unfold i64n; omega, fun x hx => by simp only [List.mem_singleton] at hx; subst hx; exact h⟩
theorem wide_bin {o : Int} {a b : Ex} (h : Wide a) (h' : Wide b) : Wide (bin o a b) := (wide_mk _ _ _ _ _ _ _).2 ⟨by unfold i64n; omega, fun x hx => by
  simp only [List.mem_cons, List.not_mem_nil, or_false] at hx
  rcases hx with rfl | rfl
  · exact h
  · exact h'⟩
theorem wide_litX {v : Vv} (h : i64n v.n) : Wide (litX v) := by
  unfold litX
  have h2 := h
  unfold i64n at h2
  split
  · exact wide_lit h
  split
  · exact wide_bin (wide_un (wide_lit (by unfold i64n; omega))) (wide_lit (by unfold i64n; omega))
  · exact wide_un (wide_lit (by unfold i64n; omega))
theorem lim_fill {ps : List Vv} (hp : ∀ v ∈ ps, v.s.length ≤ 1000000) : ∀ e : Ex, Lim e → Lim (fill ps e) := by
  refine Ex.byKids fun k o vk vn vs nm kids ih h => ?_
  obtain ⟨h1, h2, h3⟩ := (lim_mk _ _ _ _ _ _ _).1 h
  rw [fill]
  split
  · refine lim_litX ?_
    by_cases c : (o - 1).toNat < ps.length
    · exact hp _ (getD_mem c)
    · rw [List.getD_eq_getElem?_getD, List.getElem?_eq_none (by omega)]; simp [nul]
  · rw [fillL_map]
    refine (lim_mk _ _ _ _ _ _ _).2 ⟨h1, h2, fun x hx => ?_⟩
    obtain ⟨y, hy, rfl⟩ := List.mem_map.1 hx
    exact ih y hy (h3 y hy)
theorem wide_fill {ps : List Vv} (hp : ∀ v ∈ ps, i64n v.n) : ∀ e : Ex, Wide e → Wide (fill ps e) := by
  refine Ex.byKids fun k o vk vn vs nm kids ih h => ?_
  obtain ⟨h1, h3⟩ := (wide_mk _ _ _ _ _ _ _).1 h
  rw [fill]
  split
  · refine wide_litX ?_
    by_cases c : (o - 1).toNat < ps.length
    · exact hp _ (getD_mem c)
    · rw [List.getD_eq_getElem?_getD, List.getElem?_eq_none (by omega)]; show i64n 0; unfold i64n; omega
  · rw [fillL_map]
    refine (wide_mk _ _ _ _ _ _ _).2 ⟨h1, fun x hx => ?_⟩
    obtain ⟨y, hy, rfl⟩ := List.mem_map.1 hx
    exact ih y hy (h3 y hy)
/-- What the law asks, where Fill gives an expression. -/
theorem fill_same {g g' : GS} {e X : Ex} (h : fillT (g.prs.map vv) e = (X, 0)) (hp : ∀ v ∈ g.prs, Right.okV v.k v.n v.s.data.toList = true) (hi : ∀ v ∈ g.prs, i64n v.n) (hr : g'.row = g.row) (hq : g'.prs = []) : X = fill (g.prs.map vv) e ∧ evalT g' X = evalT g e := by
  unfold fillT at h
  by_cases c0 : checkE true e ≠ 0
  · rw [if_pos c0] at h
    exact absurd (congrArg Prod.snd h) c0
  rw [if_neg c0] at h
  by_cases c1 : ((g.prs.map vv).length : Int) < parE 0 e
  · rw [if_pos c1] at h
    exact absurd (congrArg Prod.snd h) (show ¬ (37 : Int) = 0 by decide)
  rw [if_neg c1] at h
  by_cases c2 : okU (g.prs.map vv) e = false
  · rw [if_pos c2] at h
    exact absurd (congrArg Prod.snd h) (show ¬ (2 : Int) = 0 by decide)
  rw [if_neg c2] at h
  by_cases c3 : 8 < hgt (fill (g.prs.map vv) e)
  · rw [if_pos c3] at h
    exact absurd (congrArg Prod.snd h) (show ¬ (17 : Int) = 0 by decide)
  rw [if_neg c3] at h
  have hX : X = fill (g.prs.map vv) e := (congrArg Prod.fst h).symm
  have h0 : checkE true e = 0 := by simpa using c0
  have hu : Uses (g.prs.map vv) e := uses_of (fun v hv => by
    obtain ⟨u, hu, rfl⟩ := List.mem_map.1 hv
    exact ⟨by rw [← okV_two]; exact hp u hu, hi u hu⟩) e (fill_at h0 c1)
  have hs : Rs true (fill (g.prs.map vv) e) := rs_fill (rs_of e (check_right h0)) hu
  have hc : checkE true X = 0 := by
    rw [hX]
    unfold checkE
    rw [if_neg c3, if_pos (rightB_of hs)]
  refine ⟨hX, ?_⟩
  unfold evalT
  rw [if_neg (by simpa using hc), if_neg c0]
  unfold cm
  rw [hr, hq, hX]
  exact come_fill hu
end Go.Proofs.YtbdippgamlknbaaDoor.Eo
