import Derived.Test.YtlkmhdbmcfblkaaGreatDoorRsStates
import Derived.Test.YtlkmhdbmcfblkaaGreatDoorExPiles
import Derived.Test.YtlkmhdbmcfblkaaGreatDoorExParses
/- Trees that the document's parser makes: of kids written out; what a call leaves that reads one. -/
namespace Go.Proofs.YtlkmhdbmcfblkaaGreatDoor.Ep
open Go.RowKit Go.Proofs.YtlkmhdbmcfblkaaGreatDoor.Mem Go.Proofs.YtlkmhdbmcfblkaaGreatDoor.Right Go.Proofs.YtlkmhdbmcfblkaaGreatDoor.Lx
set_option linter.unusedVariables false

/-- A list of trees written out. -/
theorem OwnT.built {w : World} {base : Nat} {S : Nat → Prop} {l : List Ex} {css : List (List Value)} {cur : Array Value} {n : Nat} (hl : css.length = l.length) (hn : n = l.length) (hx : ∀ (j : Nat) (x : Ex) (cs : List Value), l[j]? = some x → css[j]? = some cs → ExIn w S x cs)
    (hS : ∀ b, S b → b < w.heap.size) (hb : base ≤ w.heap.size) (hm : l.length ≤ maxLen) (hc : cur.toList = css.flatten) : OwnT (w.alloc (.cells cur tE)) base tE S (.slice (some ⟨w.heap.size, 0, none⟩) n n) l := by
  subst hn
  have h7 : ∀ cs ∈ css, cs.length = 7 := fun cs hcs => by
    obtain ⟨j, hj, rfl⟩ := List.getElem_of_mem hcs
    exact (hx j l[j] css[j] (List.getElem?_eq_getElem (by omega)) (List.getElem?_eq_getElem hj)).len
  have hf : css.flatten.length = l.length * 7 := by rw [flatk_len h7, hl]
  refine ⟨css, by rw [List.length_map]; exact hl, h7, ⟨by rw [List.length_map]; exact hf, .inr ⟨w.heap.size, l.length, cur, by rw [List.length_map], hb, heap_alloc_new w _, by rw [List.length_map]; exact Nat.le_refl _, hm, ?_, ?_⟩⟩, fun j d cs hd hcs => ?_⟩
  · rw [← hf, ← hc, Array.length_toList]
  · rw [List.length_map, hc, ← hf, List.take_length]
  · rw [List.getElem?_map] at hd
    obtain ⟨x, hxj, rfl⟩ := Option.map_eq_some_iff.1 hd
    exact ExIn.to (fun _ h => h) (fun p hp => World.cell?_of_block (heap_alloc_old _ _ (hS _ hp))) x cs (hx j x cs hxj hcs)
section
variable {w : World} {S : Nat → Prop} {x y : Ex} {v0 v1 v2 v3 v4 v5 v6 u0 u1 u2 u3 u4 u5 u6 : Value}
/-- A tree of one kid, of two. -/
theorem tree_one (hx : ExIn w S x [v0, v1, v2, v3, v4, v5, v6]) (hS : ∀ b, S b → b < w.heap.size) (k o : Int) : ExIn (w.alloc (.cells #[v0, v1, v2, v3, v4, v5, v6] tE)) (fun b => S b ∨ b = w.heap.size) (.mk k o 0 0 [] [] [x]) [.int .i64 k, .int .i64 o, .int .i64 0, .int .i64 0, .string ⟨#[]⟩, .string ⟨#[]⟩, .slice (some ⟨w.heap.size, 0, none⟩) 1 1] := by
  have h := OwnT.built (base := 0) (l := [x]) (css := [[v0, v1, v2, v3, v4, v5, v6]]) (cur := #[v0, v1, v2, v3, v4, v5, v6]) (n := 1) (S := S) (w := w) rfl rfl (fun j z cs hj hc => by
    match j with
    | 0 => simp at hj hc; subst hj hc; exact hx
    | j + 1 => simp at hj) hS (Nat.zero_le _) (by show 1 ≤ maxLen; unfold maxLen; omega) rfl
  exact (h.tree k o 0 0 [] []).more fun b hb => hb.imp id fun e => (Option.some.inj e).symm
theorem tree_two (hx : ExIn w S x [v0, v1, v2, v3, v4, v5, v6]) (hy : ExIn w S y [u0, u1, u2, u3, u4, u5, u6]) (hS : ∀ b, S b → b < w.heap.size) (k o : Int) : ExIn (w.alloc (.cells #[v0, v1, v2, v3, v4, v5, v6, u0, u1, u2, u3, u4, u5, u6] tE)) (fun b => S b ∨ b = w.heap.size) (.mk k o 0 0 [] [] [x, y]) [.int .i64 k, .int .i64 o, .int .i64 0, .int .i64 0, .string ⟨#[]⟩, .string ⟨#[]⟩, .slice (some ⟨w.heap.size, 0, none⟩) 2 2] := by
  have h := OwnT.built (base := 0) (l := [x, y]) (css := [[v0, v1, v2, v3, v4, v5, v6], [u0, u1, u2, u3, u4, u5, u6]]) (cur := #[v0, v1, v2, v3, v4, v5, v6, u0, u1, u2, u3, u4, u5, u6]) (n := 2) (S := S) (w := w) rfl rfl (fun j z cs hj hc => by
    match j with
    | 0 => simp at hj hc; subst hj hc; exact hx
    | 1 => simp at hj hc; subst hj hc; exact hy
    | j + 2 => simp at hj) hS (Nat.zero_le _) (by show 2 ≤ maxLen; unfold maxLen; omega) rfl
  exact (h.tree k o 0 0 [] []).more fun b hb => hb.imp id fun e => (Option.some.inj e).symm
end
/-- Nothing that was there turns but block p; a block made since is written. -/
theorem Oth.set_new {p : Nat} {w a : World} (h : Oth p w a) {b : Nat} (hb : w.heap.size ≤ b) (hp : p ≤ b) (i : Nat) (v : Value) : Oth p w (a.setCell ⟨b, i, none⟩ v) :=
  ⟨h.1.setCell hp v, fun c hc hcp => (Below.heap_setCell a ⟨b, i, none⟩ v c (by show c ≠ b; omega)).trans (h.2 c hc hcp)⟩
theorem Oth.put_new {p : Nat} {w a : World} (h : Oth p w a) {b : Nat} (hb : w.heap.size ≤ b) (hp : p ≤ b) {q : Nat} {v0 v1 v2 v3 v4 v5 v6 : Value} : Oth p w (put7 a b q v0 v1 v2 v3 v4 v5 v6) :=
  ⟨put7_below h.1 hp, fun c hc hcp => (put7_oth (by omega)).trans (h.2 c hc hcp)⟩
/-! ### What a call leaves -/
/-- What was read, which token is next, and the error. -/
def GotR {α : Type} (R : Res α) (x : α) (q : Nat) (e : Int) : Prop := match R with
  | .ok y s => x = y ∧ q = s ∧ e = 0
  | .err c s => q = s ∧ e = c ∧ c ≠ 0
/-- A tree, in memory of the call's own. -/
def Gives (w0 : World) (B : Nat) (tk : Value) (R : Res Ex) (r : Ending) (w' : World) : Prop :=
  ∃ (x : Ex) (k o vk vn : Int) (vs nm : ByteArray) (A1 : Option Addr) (m1 c1 q : Nat) (e : Int), r = .returned (.agg #[.int .i64 k, .int .i64 o, .int .i64 vk, .int .i64 vn, .string vs, .string nm, .slice A1 m1 c1]) ∧ ExIn w' (fun b => w0.heap.size ≤ b ∧ b < w'.heap.size) x [.int .i64 k, .int .i64 o, .int .i64 vk, .int .i64 vn, .string vs, .string nm, .slice A1 m1 c1] ∧ Rz w' B tk q e ∧ GotR R x q e ∧ Oth B w0 w'
/-- The result's cell is written last. -/
theorem gives_put {w a : World} {B q : Nat} {tk : Value} {e : Int} {R : Res Ex} {x : Ex} {k o vk vn : Int} {vs nm : ByteArray} {A1 : Option Addr} {m1 c1 : Nat} (hB : B < w.heap.size) (hx : ExIn a (fun b => w.heap.size < b ∧ b < a.heap.size) x [.int .i64 k, .int .i64 o, .int .i64 vk, .int .i64 vn, .string vs, .string nm, .slice A1 m1 c1]) (hz : Rz a B tk q e) (hg : GotR R x q e) (ho : Oth B w a) :
    Gives w B tk R (.returned (.agg #[.int .i64 k, .int .i64 o, .int .i64 vk, .int .i64 vn, .string vs, .string nm, .slice A1 m1 c1])) (put7 a w.heap.size 0 (.int .i64 k) (.int .i64 o) (.int .i64 vk) (.int .i64 vn) (.string vs) (.string nm) (.slice A1 m1 c1)) :=
  ⟨x, k, o, vk, vn, vs, nm, A1, m1, c1, q, e, rfl, ExIn.to (fun b hb => ⟨Nat.le_of_lt hb.1, by rw [put7_size]; exact hb.2⟩) (fun p hp => World.cell?_of_block (put7_oth (by have := hp.1; omega))) _ _ hx, Cel.put_other hz (by omega), hg, Oth.put_new ho (Nat.le_refl _) (Nat.le_of_lt hB)⟩
theorem GotR.lt {α : Type} {L : List To} {m : α → Nat} {lo c : Nat} {R : Res α} {x : α} {q : Nat} {e : Int} (h : GotR R x q e) (hi : In (Ts L) m lo c R) (h99 : ∀ q, R ≠ .err 99 q) : q < L.length := by
  cases R with
  | ok y s => obtain ⟨_, rfl, _⟩ := h; have := hi.2; rwa [Ts_len] at this
  | err c s =>
    obtain ⟨rfl, rfl, _⟩ := h
    rcases hi with h | h
    · exact absurd (by rw [h]) (h99 q)
    · rwa [Ts_len] at h
/-- A call that reads as the grammar's line does. -/
def ReadsR (f : FuncId) (ar : Array Value) (B : Nat) (A : Option Addr) (n c : Nat) (L : List To) (R : Nat → Res Ex) : Prop :=
  ∀ (w : World) (p : Nat), Rz w B (.slice A n c) p 0 → ToksIn w (fun b => b < B) A L → p < L.length → (∀ q, R p ≠ .err 99 q) → Calls Tryz.prog f ar w (Gives w B (.slice A n c) (R p))
theorem ReadsR.got {f : FuncId} {ar : Array Value} {B n c : Nat} {A : Option Addr} {L : List To} {F : Nat → Res Ex} (h : ReadsR f ar B A n c L F) {w : World} {p : Nat} (hs : Rz w B (.slice A n c) p 0) (hE : ToksIn w (fun b => b < B) A L) (hp : p < L.length) {R : Res Ex} (hF : F p = R) (h99 : ∀ q, R ≠ .err 99 q) :
    Calls Tryz.prog f ar w (Gives w B (.slice A n c) R) := by
  subst hF
  exact h w p hs hE hp h99
abbrev fRank : FuncId := 24
/-- Behind an error nothing is read. -/
theorem rank_bad {w : World} {B p : Nat} {tk : Value} {e : Int} (h : Rz w B tk p e) (he : e ≠ 0) (r : Int) : Calls Tryz.prog 24 #[pV B, .int .i64 r] w fun x w' => x = .returned (.agg zC.toArray) ∧ Rz w' B tk p e ∧ Oth B w w' := by
  have hB := h.lt
  have hb := al (Below.refl w.heap.size w) (.cells zC.toArray tE)
  have hz := h.below hb
  have HZ := Lib.hid hz
  have HO := Lib.hid (Oth.of hb (Nat.le_of_lt hB))
  have q2 := past (h.at_ 2) (.cells zC.toArray tE)
  have te : (e != 0) = true := bne_yes he
  clear h hb hz he
  go_enter Tryz.func24, Tryz.ntmps24
  go_wp2
  (try simp only [Exit.inBlock, Exit.then])
  refine bodyPost_ret (v := .agg zC.toArray) ?_ rfl ?_
  · simp only [results, Tryz.f24]
    go_simp
  exact ⟨rfl, HZ.out, HO.out⟩
end Go.Proofs.YtlkmhdbmcfblkaaGreatDoor.Ep
/- The document's parser reads some in brackets. -/
namespace Go.Proofs.YtlkmhdbmcfblkaaGreatDoor.Ep
open Go.RowKit Go.Proofs.YtlkmhdbmcfblkaaGreatDoor.Mem Go.Proofs.YtlkmhdbmcfblkaaGreatDoor.Right Go.Proofs.YtlkmhdbmcfblkaaGreatDoor.Lx Go.Deep
set_option linter.unusedVariables false

/-- A list of trees of a call's own, the trees in memory of its own. -/
def OwnL (w0 : World) (w : World) (v : Value) (xs : List Ex) : Prop := ∃ S : Nat → Prop, OwnT w w0.heap.size tE S v xs ∧ ∀ b, S b → w0.heap.size ≤ b ∧ b < w.heap.size ∧ some b ≠ v.ownBlock
def GivesL (w0 : World) (B : Nat) (tk : Value) (R : Res (List Ex)) (r : Ending) (w' : World) : Prop :=
  ∃ (xs : List Ex) (g m c q : Nat) (e : Int), r = .returned (.slice (some ⟨g, 0, none⟩) m c) ∧ m = xs.length ∧ 1 ≤ m ∧ m ≤ 8 ∧ OwnL w0 w' (.slice (some ⟨g, 0, none⟩) m c) xs ∧ Rz w' B tk q e ∧ GotR R xs q e ∧ Oth B w0 w'
def ReadsRL (f : FuncId) (B : Nat) (A : Option Addr) (n c : Nat) (L : List To) (most : Nat) (R : Nat → Res (List Ex)) : Prop :=
  ∀ (w : World) (p : Nat), Rz w B (.slice A n c) p 0 → ToksIn w (fun b => b < B) A L → p < L.length → (∀ q, R p ≠ .err 99 q) → Calls Tryz.prog f #[pV B, .int .i64 (most : Int)] w (GivesL w B (.slice A n c) (R p))
theorem ReadsRL.got {f : FuncId} {B n c most : Nat} {A : Option Addr} {L : List To} {F : Nat → Res (List Ex)} (h : ReadsRL f B A n c L most F) {w : World} {p : Nat} (hs : Rz w B (.slice A n c) p 0) (hE : ToksIn w (fun b => b < B) A L) (hp : p < L.length) {R : Res (List Ex)} (hF : F p = R) (h99 : ∀ q, R ≠ .err 99 q) :
    Calls Tryz.prog f #[pV B, .int .i64 (most : Int)] w (GivesL w B (.slice A n c) R) := by
  subst hF
  exact h w p hs hE hp h99
theorem OwnL.oth {w0 w w' : World} {B : Nat} {v : Value} {xs : List Ex} (h : OwnL w0 w v xs) (ho : Oth B w w') (hB : B < w0.heap.size) : OwnL w0 w' v xs := by
  obtain ⟨S, h1, h2⟩ := h
  have hg : w.grownBy w' (some B) := ⟨ho.1.os, ho.1.tape, ho.1.output, ho.1.size, fun k hk hr => ho.2 k hk (fun e => hr (by rw [e]))⟩
  refine ⟨S, h1.kept hg (.inr fun e => ?_) fun b hb => ⟨(h2 b hb).2.1, fun e => ?_⟩, fun b hb => ⟨(h2 b hb).1, Nat.lt_of_lt_of_le (h2 b hb).2.1 ho.size, (h2 b hb).2.2⟩⟩
  · have := (h1.lt B e).1; omega
  · injection e with e; have := (h2 b hb).1; omega
/-- The first one, written out. -/
theorem OwnL.one {w0 w : World} {x : Ex} {k o vk vn : Int} {vs nm : ByteArray} {A1 : Option Addr} {m1 c1 : Nat} (hx : ExIn w (fun b => w0.heap.size ≤ b ∧ b < w.heap.size) x [.int .i64 k, .int .i64 o, .int .i64 vk, .int .i64 vn, .string vs, .string nm, .slice A1 m1 c1]) (hs : w0.heap.size ≤ w.heap.size) : OwnL w0 (w.alloc (.cells #[.int .i64 k, .int .i64 o, .int .i64 vk, .int .i64 vn, .string vs, .string nm, .slice A1 m1 c1] tE)) (.slice (some ⟨w.heap.size, 0, none⟩) 1 1) [x] := by
  refine ⟨fun b => w0.heap.size ≤ b ∧ b < w.heap.size, OwnT.built (css := [[.int .i64 k, .int .i64 o, .int .i64 vk, .int .i64 vn, .string vs, .string nm, .slice A1 m1 c1]]) (l := [x]) rfl rfl (fun j z cs hj hc => by
    match j with
    | 0 => simp at hj hc; subst hj hc; exact hx
    | j + 1 => simp at hj) (fun b hb => hb.2) hs (by show 1 ≤ maxLen; unfold maxLen; omega) rfl, fun b hb => ⟨hb.1, by simp; omega, fun e => ?_⟩⟩
  have : b = w.heap.size := Option.some.inj e
  omega
/-- What the parser has read within the brackets. -/
def ListSt (L : List Tt) (most gk : Nat) (R : Res (List Ex)) (xs : List Ex) (q : Nat) (e : Int) : Prop := (e = 0 ∧ moreP L gk most xs q = R) ∨ (e ≠ 0 ∧ R = .err e q)
/-- One more behind them. -/
theorem OwnL.more_ {w0 w w3 : World} {B g m c : Nat} {xs : List Ex} {y : Ex} {k o vk vn : Int} {vs nm : ByteArray} {A1 : Option Addr} {m1 c1 : Nat} (h : OwnL w0 w (.slice (some ⟨g, 0, none⟩) m c) xs) (ho : Oth B w w3) (hB : B < w0.heap.size) (hw : w0.heap.size ≤ w.heap.size)
    (hy : ExIn w3 (fun b => w.heap.size ≤ b ∧ b < w3.heap.size) y [.int .i64 k, .int .i64 o, .int .i64 vk, .int .i64 vn, .string vs, .string nm, .slice A1 m1 c1]) : ∃ S : Nat → Prop, OwnT w3 w0.heap.size tE S (.slice (some ⟨g, 0, none⟩) m c) xs ∧ ExIn w3 S y [.int .i64 k, .int .i64 o, .int .i64 vk, .int .i64 vn, .string vs, .string nm, .slice A1 m1 c1] ∧ ∀ b, S b → w0.heap.size ≤ b ∧ b < w3.heap.size ∧ some b ≠ (Value.slice (some ⟨g, 0, none⟩) m c).ownBlock := by
  obtain ⟨S, h1, h2⟩ := h.oth ho hB
  obtain ⟨S', h3, _⟩ := h
  have hg := (h3.lt g rfl).2
  refine ⟨fun b => S b ∨ (w.heap.size ≤ b ∧ b < w3.heap.size), h1.more fun b hb => .inl hb, hy.more fun b hb => .inr hb, fun b hb => ?_⟩
  rcases hb with hb | hb
  · exact h2 b hb
  · refine ⟨by omega, hb.2, fun e => ?_⟩
    have : b = g := Option.some.inj e
    omega
set_option maxRecDepth 100000 in
set_option maxHeartbeats 4000000 in
theorem listR_step {B n c N : Nat} {A : Option Addr} {L : List To} (hop : ∀ m, m ≤ N → ReadsR 24 #[pV B, .int .i64 1] B A n c L (fun p => rankP (Ts L) m 1 p)) (hL : Rts L) (hn : n = L.length) (most : Nat) (hm1 : 1 ≤ most) (hm : most ≤ 8) :
    ReadsRL 62 B A n c L most (fun p => listP (Ts L) (N + 1) most p) := by
  intro w p h hE hp h99
  obtain ⟨R, hR⟩ : ∃ R, listP (Ts L) (N + 1) most p = R := ⟨_, rfl⟩
  have h99 : ∀ q, R ≠ .err 99 q := fun q => by rw [← hR]; exact h99 q
  show Calls Tryz.prog 62 #[pV B, .int .i64 (most : Int)] w (GivesL w B (.slice A n c) (listP (Ts L) (N + 1) most p))
  rw [hR]
  rw [listP] at hR
  have hB := h.lt
  -- the first one
  obtain ⟨q0, e0, hq0, HM, HF⟩ : ∃ (q0 : Nat) (e0 : Int), q0 < L.length ∧ (Calls Tryz.prog 61 #[pV B, .string ⟨#[40]⟩] w fun r w' => r = .returned (.tuple #[]) ∧ Rz w' B (.slice A n c) q0 e0 ∧ Oth B w w') ∧
      ∀ W, Rz W B (.slice A n c) q0 e0 → Oth B w W → Calls Tryz.prog 24 #[pV B, .int .i64 1] W fun r w' => ∃ (x : Ex) (k o vk vn : Int) (vs nm : ByteArray) (A1 : Option Addr) (m1 c1 q : Nat) (e : Int), r = .returned (.agg #[.int .i64 k, .int .i64 o, .int .i64 vk, .int .i64 vn, .string vs, .string nm, .slice A1 m1 c1]) ∧ ExIn w' (fun b => W.heap.size ≤ b ∧ b < w'.heap.size) x [.int .i64 k, .int .i64 o, .int .i64 vk, .int .i64 vn, .string vs, .string nm, .slice A1 m1 c1] ∧ Rz w' B (.slice A n c) q e ∧ q < L.length ∧ ListSt (Ts L) most N R [x] q e ∧ Oth B W w' := by
    cases ht : isT (Ts L) p [40] with
    | false =>
      rw [ht, if_neg (by decide)] at hR
      refine ⟨p, 16, hp, (mustR_not h hE hL hn hp (k := [40]) (.inr ht)), fun W hW hb => ?_⟩
      refine (rank_bad hW (by decide) 1).mono ?_
      rintro r w' ⟨rfl, h1, h2⟩
      exact ⟨exZ, 0, 0, 0, 0, ⟨#[]⟩, ⟨#[]⟩, none, 0, 0, p, 16, rfl, zC_in _ _, h1, hp, .inr ⟨by decide, hR.symm⟩, h2⟩
    | true =>
      rw [ht, if_pos rfl] at hR
      have hp1 : p + 1 < L.length := by have := hL.2.2.isT (by rw [Ts_len]; exact hp) ht; rwa [Ts_len] at this
      have h99' := no99_bind (fun q' => by rw [hR]; exact h99 q')
      have hin := (inner hL.2.2 N).rank 1 (p + 1) (by rw [Ts_len]; exact hp1)
      refine ⟨p + 1, 0, hp1, mustR_is h hE hL hn hp rfl (k := [40]) ht, fun W hW hb => ?_⟩
      refine ((hop N (Nat.le_refl _)).got hW (hE.oth hb) hp1 rfl h99').mono ?_
      rintro r w' ⟨x, k, o, vk, vn, vs, nm, A1, m1, c1, q, e, rfl, hx, hz, hg, ho⟩
      refine ⟨x, k, o, vk, vn, vs, nm, A1, m1, c1, q, e, rfl, hx, hz, hg.lt hin h99', ?_, ho⟩
      cases h1 : rankP (Ts L) N 1 (p + 1) with
      | ok y s =>
        rw [h1] at hg hR
        obtain ⟨rfl, rfl, rfl⟩ := hg
        exact .inl ⟨rfl, hR⟩
      | err c s =>
        rw [h1] at hg hR
        obtain ⟨rfl, rfl, h0⟩ := hg
        exact .inr ⟨h0, hR.symm⟩
  have HM := Lib.hid HM
  have HF := Lib.hid HF
  have HOP := Lib.hid hop
  have HE := Lib.hid hE
  have HL := Lib.hid hL
  have HN := Lib.hid hn
  have HB := Lib.hid hB
  have H99 := Lib.hid h99
  clear h hE hop hR hL hn hp h99 hB hq0
  go_enter Tryz.func62, Tryz.ntmps62
  go_wp2_with (first
    | (go_at_call 61; (refine HM.out.mono ?_); rintro e' w1 ⟨rfl, hz, ho⟩; have H1 := Lib.hid hz; have H2 := Lib.hid ho; clear hz ho)
    | (go_at_call 24; (refine (HF.out _ H1.out H2.out).mono ?_); rintro e' w2 ⟨x, k, o, vk, vn, vs, nm, A1, m1, c1, q, e, rfl, hx, hz, hq, hst, ho⟩; have H3 := Lib.hid (And.intro hx (And.intro hz (And.intro hq (And.intro hst ho)))); clear hx hz hq hst ho))
  go_loopg [5] N (fun gk v5 wr => ∃ (xs : List Ex) (g j c5 q : Nat) (e : Int), v5 = .slice (some ⟨g, 0, none⟩) j c5 ∧ 1 ≤ j ∧ j ≤ most ∧ Hid (xs.length = j) ∧ Hid (gk ≤ N) ∧ Hid (ListSt (Ts L) most gk R xs q e) ∧ Hid (q < L.length) ∧ Hid (OwnL w wr (.slice (some ⟨g, 0, none⟩) j c5) xs) ∧ Hid (Rz wr B (.slice A n c) q e) ∧ Hid (Oth B w wr))
  case atStart =>
    obtain ⟨hx, hz, hq, hst, ho⟩ := H3.out
    have ho2 := H2.out.trans ho
    have hs1 := H2.out.size
    have hb := al (Below.refl w2.heap.size w2) (.cells #[.int .i64 k, .int .i64 o, .int .i64 vk, .int .i64 vn, .string vs, .string nm, .slice A1 m1 c1] tE)
    exact ⟨[x], _, 1, 1, q, e, rfl, Nat.le_refl _, hm1, Lib.hid rfl, Lib.hid (Nat.le_refl _), Lib.hid hst, Lib.hid hq, Lib.hid (OwnL.one (hx.more fun b hb => ⟨by omega, hb.2⟩) ho2.size), Lib.hid (hz.below hb), Lib.hid (ho2.trans (Oth.of hb (by have := HB.out; have := ho2.size; omega)))⟩
  case round =>
    obtain ⟨xs, g, j, c5, q, e, rfl, hj1, hjm, HJ, HK, HST, HQ, HV, HZ, HO⟩ := hrel
    have HSH := Lib.hid (show ∀ (W : World) (e1 : Int) (q1 : Nat), GotR R xs q1 e1 → Rz W B (.slice A n c) q1 e1 → Oth B wr W → GivesL w B (.slice A n c) R (.returned (.slice (some ⟨g, 0, none⟩) j c5)) W from fun W e1 q1 h1 h2 h3 => ⟨xs, g, j, c5, q1, e1, rfl, HJ.out.symm, hj1, by omega, HV.out.oth h3 HB.out, h2, h1, HO.out.trans h3⟩)
    by_cases he : e = 0
    case neg =>
      have hR : R = .err e q := by
        rcases HST.out with ⟨h, _⟩ | ⟨_, h⟩
        · exact absurd h he
        · exact h
      have HGR := Lib.hid (show GotR R xs q e from by rw [hR]; exact ⟨rfl, rfl, he⟩)
      have HMN := Lib.hid (show ∀ W, Rz W B (.slice A n c) q e → Oth B wr W → Calls Tryz.prog 61 #[pV B, .string ⟨#[41]⟩] W fun r w' => r = .returned (.tuple #[]) ∧ Rz w' B (.slice A n c) q e ∧ Oth B W w' from fun W hW hb => by
        have := mustR_not hW ((HE.out.oth HO.out).oth hb) HL.out HN.out HQ.out (k := [41]) (.inl he)
        rwa [if_neg he] at this)
      have HHN := Lib.hid (show Calls Tryz.prog 40 #[pV B, .string ⟨#[44]⟩] wr fun r w' => r = .returned (.bool false) ∧ Rz w' B (.slice A n c) q e ∧ Oth B wr w' from have_not HZ.out (HE.out.oth HO.out) HL.out HN.out HQ.out (k := [44]) (.inl he))
      have HRF := Lib.hid (Oth.refl B wr)
      clear he hR
      by_cases hjlt : j < most
      · have t0 : (j : Int) < (most : Int) := by omega
        go_wp2_with (first
          | (go_at_call 40; (refine HHN.out.mono ?_); rintro e' w3 ⟨rfl, hz, ho⟩; have H4 := Lib.hid hz; have H5 := Lib.hid ho; clear hz ho)
          | (go_at_call 61; (refine (HMN.out _ H4.out H5.out).mono ?_); rintro e' w4 ⟨rfl, hz, ho⟩; have H6 := Lib.hid hz; have H7 := Lib.hid (H5.out.trans ho); clear hz ho))
        go_ret
        exact HSH.out _ _ _ HGR.out H6.out H7.out
      · have t0 : ¬ (j : Int) < (most : Int) := by omega
        go_wp2_with (go_at_call 61; (refine (HMN.out _ HZ.out HRF.out).mono ?_); rintro e' w4 ⟨rfl, hz, ho⟩; have H6 := Lib.hid hz; have H7 := Lib.hid ho; clear hz ho)
        go_ret
        exact HSH.out _ _ _ HGR.out H6.out H7.out
    subst he
    cases gk with
    | zero =>
      rcases HST.out with ⟨_, h⟩ | ⟨h, _⟩
      · rw [moreP] at h
        exact absurd h.symm (H99.out q)
      · exact absurd rfl h
    | succ m =>
    have hr1 : moreP (Ts L) (m + 1) most xs q = R := by
      rcases HST.out with ⟨_, h⟩ | ⟨h, _⟩
      · exact h
      · exact absurd rfl h
    rw [moreP, HJ.out] at hr1
    by_cases hc : j < most ∧ isT (Ts L) q [44] = true
    · rw [if_pos hc] at hr1
      have hq1 : q + 1 < L.length := by have := HL.out.2.2.isT (by rw [Ts_len]; exact HQ.out) hc.2; rwa [Ts_len] at this
      have h99' := no99_bind (fun q' => by rw [hr1]; exact H99.out q')
      have HIN2 := Lib.hid ((inner HL.out.2.2 m).rank 1 (q + 1) (by rw [Ts_len]; exact hq1))
      have HHN := Lib.hid (show Calls Tryz.prog 40 #[pV B, .string ⟨#[44]⟩] wr fun r w' => r = .returned (.bool true) ∧ Rz w' B (.slice A n c) (q + 1) 0 ∧ Oth B wr w' from have_is HZ.out (HE.out.oth HO.out) HL.out HN.out HQ.out rfl (k := [44]) hc.2)
      have HO2 := Lib.hid (show ∀ W, Rz W B (.slice A n c) (q + 1) 0 → Oth B wr W → Calls Tryz.prog 24 #[pV B, .int .i64 1] W (Gives W B (.slice A n c) (rankP (Ts L) m 1 (q + 1))) from fun W hW hb => (HOP.out m (by have := HK.out; omega)).got hW ((HE.out.oth HO.out).oth hb) hq1 rfl h99')
      have t0 : (j : Int) < (most : Int) := by have := hc.1; omega
      have hjlt := hc.1
      have HR1 := Lib.hid hr1
      have H992 := Lib.hid h99'
      have HWB := Lib.hid (show w.heap.size ≤ wr.heap.size from HO.out.size)
      clear hr1 hc hq1 h99'
      go_wp2_with (first
        | (go_at_call 40; (refine HHN.out.mono ?_); rintro e' w3 ⟨rfl, hz, ho⟩; have H4 := Lib.hid hz; have H5 := Lib.hid ho; clear hz ho)
        | (go_at_call 24; (refine (HO2.out _ H4.out H5.out).mono ?_); rintro e' w4 ⟨y, k, o, vk, vn, vs, nm, A1, m1, c1, s, e2, rfl, hy, hz, hg, ho⟩; have hss := H5.out.size; obtain ⟨S, k1, k2, k3⟩ := HV.out.more_ (H5.out.trans ho) HB.out HWB.out (hy.more fun b hb => ⟨Nat.le_trans hss hb.1, hb.2⟩); have H6 := Lib.hid k1; have H7 := Lib.hid k2; have H8 := Lib.hid k3; have H9 := Lib.hid hz; have H10 := Lib.hid hg; have H11 := Lib.hid (HO.out.trans (H5.out.trans ho)); clear hy hz hg ho k1 k2 k3 hss)
        | (at_builtin; go_loud (refine wp_tree elemEx w.heap.size rfl (.tmp 19) (.tmp 22) rfl rfl rfl H6.out H7.out (fun b hb => (H8.out b hb).2) rfl (by rw [HJ.out]; omega) (by rw [HJ.out]; omega) H11.out.size ?_; intro v' w5 g1 g2 g3; obtain ⟨A', c', hv', -, hc1, hc2⟩ := g1.form; have H12 := Lib.hid g1; have H13 := Lib.hid g2; have H14 := Lib.hid g3; have H15 := Lib.hid (And.intro hv' (And.intro hc1 hc2)); clear g1 g2 g3 hv' hc1 hc2)))
      go_roundg m
      case measure => omega
      case rel =>
        obtain ⟨hv', hc1, hc2⟩ := H15.out
        have hlen : (xs ++ [y]).length = j + 1 := by rw [List.length_append, HJ.out]; rfl
        rw [hlen] at hv'
        subst hv'
        obtain ⟨g', rfl, hg1, hg2, _⟩ := OwnT.block H12.out (by omega)
        have hsa : (w4.alloc (.cells #[.int .i64 k, .int .i64 o, .int .i64 vk, .int .i64 vn, .string vs, .string nm, .slice A1 m1 c1] tE)).heap.size = w4.heap.size + 1 := by simp
        have hba := al (Below.refl w4.heap.size w4) (.cells #[.int .i64 k, .int .i64 o, .int .i64 vk, .int .i64 vn, .string vs, .string nm, .slice A1 m1 c1] tE)
        have hgr := H13.out
        have hgz : some g ≠ some B := fun e => by have := (H6.out.lt g rfl).1; have := HB.out; have := Option.some.inj e; omega
        refine ⟨xs ++ [y], g', j + 1, c', s, e2, rfl, by omega, by omega, Lib.hid hlen, Lib.hid (by have := HK.out; omega), Lib.hid ?_, Lib.hid (H10.out.lt HIN2.out H992.out), Lib.hid ⟨_, H12.out, fun b hb => ?_⟩, Lib.hid ?_, Lib.hid ?_⟩
        · have hrr := HR1.out
          have hg := H10.out
          cases h1 : rankP (Ts L) m 1 (q + 1) with
          | ok y' s' =>
            rw [h1] at hg hrr
            obtain ⟨rfl, rfl, rfl⟩ := hg
            exact .inl ⟨rfl, hrr⟩
          | err c s' =>
            rw [h1] at hg hrr
            obtain ⟨rfl, rfl, h0⟩ := hg
            exact .inr ⟨h0, hrr.symm⟩
        · obtain ⟨k1, k2, k3⟩ := H8.out b hb
          refine ⟨k1, Nat.lt_of_lt_of_le k2 (Nat.le_trans hba.size hgr.size), fun e => ?_⟩
          rcases H14.out with h5 | h5
          · exact k3 (e.trans h5)
          · have : b = w4.heap.size + 1 := by
              have := e.trans h5
              rw [hsa] at this
              exact Option.some.inj this
            omega
        · exact Cel.grown ((H9.out).below hba) hgr (fun e => hgz (by exact e.symm))
        · refine ⟨(H11.out.1.trans (hba.mono (by have := HB.out; have := H11.out.size; omega))).grown hgr (by have := HB.out; have := H11.out.size; omega) fun k hk => ?_, fun b hb hbp => ?_⟩
          · have hk : g = k := Option.some.inj hk
            have h7 : w.heap.size ≤ g := (H6.out.lt g rfl).1
            have := HB.out
            omega
          · have hb4 : b < w4.heap.size := Nat.lt_of_lt_of_le hb H11.out.size
            rw [hgr.block b (Nat.lt_of_lt_of_le hb4 hba.size) (fun e => by
              have h7 : w.heap.size ≤ g := (H6.out.lt g rfl).1
              have h8 : b = g := Option.some.inj e
              omega), hba.block b hb4]
            exact H11.out.2 b hb hbp
    · rw [if_neg hc] at hr1
      have hshut : ∃ (q1 : Nat) (e1 : Int), GotR R xs q1 e1 ∧ ∀ W, Rz W B (.slice A n c) q 0 → Oth B wr W → Calls Tryz.prog 61 #[pV B, .string ⟨#[41]⟩] W fun r w' => r = .returned (.tuple #[]) ∧ Rz w' B (.slice A n c) q1 e1 ∧ Oth B W w' := by
        cases ht2 : isT (Ts L) q [41] with
        | true =>
          rw [ht2, if_pos rfl] at hr1
          exact ⟨q + 1, 0, by rw [← hr1]; exact ⟨rfl, rfl, rfl⟩, fun W hW hb => mustR_is hW ((HE.out.oth HO.out).oth hb) HL.out HN.out HQ.out rfl (k := [41]) ht2⟩
        | false =>
          rw [ht2, if_neg (by decide)] at hr1
          exact ⟨q, 16, by rw [← hr1]; exact ⟨rfl, rfl, by decide⟩, fun W hW hb => mustR_not hW ((HE.out.oth HO.out).oth hb) HL.out HN.out HQ.out (k := [41]) (.inr ht2)⟩
      obtain ⟨q1, e1, hgr, hmu⟩ := hshut
      have HGR := Lib.hid hgr
      have HMU := Lib.hid hmu
      have HRF := Lib.hid (Oth.refl B wr)
      by_cases hjlt : j < most
      · have hcm : isT (Ts L) q [44] = false := by
          cases e : isT (Ts L) q [44] with
          | false => rfl
          | true => exact absurd ⟨hjlt, e⟩ hc
        have HHN := Lib.hid (show Calls Tryz.prog 40 #[pV B, .string ⟨#[44]⟩] wr fun r w' => r = .returned (.bool false) ∧ Rz w' B (.slice A n c) q 0 ∧ Oth B wr w' from have_not HZ.out (HE.out.oth HO.out) HL.out HN.out HQ.out (k := [44]) (.inr hcm))
        have t0 : (j : Int) < (most : Int) := by omega
        clear hc hr1 hgr hmu hcm
        go_wp2_with (first
          | (go_at_call 40; (refine HHN.out.mono ?_); rintro e' w3 ⟨rfl, hz, ho⟩; have H4 := Lib.hid hz; have H5 := Lib.hid ho; clear hz ho)
          | (go_at_call 61; (refine (HMU.out _ H4.out H5.out).mono ?_); rintro e' w4 ⟨rfl, hz, ho⟩; have H6 := Lib.hid hz; have H7 := Lib.hid (H5.out.trans ho); clear hz ho))
        go_ret
        exact HSH.out _ _ _ HGR.out H6.out H7.out
      · have t0 : ¬ (j : Int) < (most : Int) := by omega
        clear hc hr1 hgr hmu
        go_wp2_with (go_at_call 61; (refine (HMU.out _ HZ.out HRF.out).mono ?_); rintro e' w4 ⟨rfl, hz, ho⟩; have H6 := Lib.hid hz; have H7 := Lib.hid ho; clear hz ho)
        go_ret
        exact HSH.out _ _ _ HGR.out H6.out H7.out
end Go.Proofs.YtlkmhdbmcfblkaaGreatDoor.Ep
