/- A heap in memory: lists of pages, the struct that has them; what a call may turn, by the types of blocks. -/
import Derived.Test.YthcilmlaoddckaaHeapMath
import Derived.Test.YthcilmlaoddckaaPageRefs
namespace Go.Proofs.Ythcilmlaoddckaa.Pg
open Go.RowKit Go.Proofs.Ythcilmlaoddckaa.Mem Go.Proofs.Ythcilmlaoddckaa.Right
set_option linter.unusedVariables false

/-- What has turned between two worlds: nothing below n₀; from there on blocks of these types alone, and no byte that lay in them. -/
def Frm (T : List TypeId) (n₀ : Nat) (w w' : World) : Prop :=
  Below n₀ w w' ∧ (∀ (b : Nat) (cs : Array Value) (t : TypeId) (fr : Nat × Nat), w.heap[b]? = some (.cells cs t fr) → t ∉ T → w'.heap[b]? = some (.cells cs t fr)) ∧ (∀ (p : Addr) (z : Int), w.cell? p = some (.int .u8 z) → w'.cell? p = some (.int .u8 z))
theorem Frm.refl (T : List TypeId) (n₀ : Nat) (w : World) : Frm T n₀ w w := ⟨Below.refl _ _, fun _ _ _ _ h _ => h, fun _ _ h => h⟩
theorem Frm.trans {T : List TypeId} {n₀ : Nat} {a b c : World} (h : Frm T n₀ a b) (k : Frm T n₀ b c) : Frm T n₀ a c :=
  ⟨h.1.trans k.1, fun j cs t fr hj ht => k.2.1 j cs t fr (h.2.1 j cs t fr hj ht) ht, fun p z hp => k.2.2 p z (h.2.2 p z hp)⟩
theorem Frm.more {T U : List TypeId} {n₀ : Nat} {a b : World} (h : Frm T n₀ a b) (hT : ∀ t ∈ T, t ∈ U) : Frm U n₀ a b :=
  ⟨h.1, fun j cs t fr hj ht => h.2.1 j cs t fr hj (fun h1 => ht (hT t h1)), h.2.2⟩
theorem Frm.less {T : List TypeId} {n₀ n₁ : Nat} {a b : World} (h : Frm T n₀ a b) (hn : n₁ ≤ n₀) : Frm T n₁ a b := ⟨h.1.mono hn, h.2⟩
theorem cell_lt' {w : World} {p : Addr} {v : Value} (h : w.cell? p = some v) : p.block < w.heap.size := by
  rcases Nat.lt_or_ge p.block w.heap.size with h1 | h1
  · exact h1
  · unfold World.cell? at h; simp [Array.getElem?_eq_none h1] at h
theorem Frm.of {T : List TypeId} {n₀ : Nat} {a b : World} (h : Below a.heap.size a b) (hn : n₀ ≤ a.heap.size) : Frm T n₀ a b :=
  ⟨h.mono hn, fun j cs t fr hj _ => (h.block j (blk_lt hj)).trans hj, fun p z hp => (h.cell (cell_lt' hp)).trans hp⟩
theorem Frm.on {T : List TypeId} {n₀ : Nat} {a b c : World} (h : Frm T n₀ a b) (hn : n₀ ≤ a.heap.size) (k : Below b.heap.size b c) : Frm T n₀ a c :=
  h.trans (Frm.of k (Nat.le_trans hn h.1.size))
theorem Frm.bs {T : List TypeId} {n₀ : Nat} {a b : World} (h : Frm T n₀ a b) {A : Option Addr} {n c : Nat} {l : List UInt8} (k : Bs a A n c l) : Bs b A n c l := by
  refine ⟨fun j u hu => ?_, k.2⟩
  obtain ⟨g, o, e, hg, hc⟩ := k.1 j u hu
  have hu' := hu
  unfold bys at hu'
  rw [List.getElem?_map] at hu'
  obtain ⟨x, _, rfl⟩ := Option.map_eq_some_iff.1 hu'
  exact ⟨g, o, e, Nat.lt_of_lt_of_le hg h.1.size, h.2.2 _ _ hc⟩
theorem Frm.good {T : List TypeId} {n₀ : Nat} {a b : World} (h : Frm T n₀ a b) {A : Option Addr} {c : Nat} {S : List Sl} (k : Good a A c S) : Good b A c S := ⟨h.bs k.1, k.2⟩
theorem Frm.tyd {T : List TypeId} {n₀ : Nat} {a b : World} (h : Frm T n₀ a b) {A : Option Addr} {t : TypeId} (ht : t ∉ T) (k : Tyd a A t) : Tyd b A t := fun j o e => by
  obtain ⟨cs, fr, hc⟩ := k j o e
  exact ⟨cs, fr, h.2.1 j cs t fr hc ht⟩
theorem Frm.row {T : List TypeId} {n₀ : Nat} {a b : World} (h : Frm T n₀ a b) {A : Option Addr} {t : TypeId} {us : List Value} (ht : t ∉ T) (k : Tyd a A t) (r : Row a a.heap.size A us) : Row b b.heap.size A us := fun j u hu => by
  obtain ⟨g, o, e, hg, hc⟩ := r j u hu
  obtain ⟨cs, fr, hb⟩ := k g o e
  have hb' := h.2.1 g cs t fr hb ht
  refine ⟨g, o, e, blk_lt hb', ?_⟩
  rw [← hc]
  exact World.cell?_of_block (w := a) (hb'.trans hb.symm)
theorem Frm.rl {T : List TypeId} {n₀ : Nat} {a b : World} (h : Frm T n₀ a b) (ht : 74 ∉ T) {A : Option Addr} {n c : Nat} {S : List Sl} (k : RL a A n c S) : RL b A n c S := by
  obtain ⟨rs, e, h1, h2, h3, h4, h5, h6, h7⟩ := k
  exact ⟨rs, e, h.row ht h7 h1, h2, h3, h4, h5, fun r hr => h.bs (h6 r hr), h.tyd ht h7⟩
theorem Frm.cel {T : List TypeId} {n₀ : Nat} {a b : World} (h : Frm T n₀ a b) {B : Nat} {t : TypeId} {cs : Array Value} (ht : t ∉ T) (k : Cel a B t cs) : Cel b B t cs := h.2.1 B cs t _ k ht
theorem Frm.own {T : List TypeId} {n₀ : Nat} {a b : World} (h : Frm T n₀ a b) {base : Nat} {e : TypeId} {size : Nat} {v : Value} {n : Nat} {us : List Value} (ht : e ∉ T) (k : a.ownsRow base e size v n us) : b.ownsRow base e size v n us := by
  obtain ⟨h1, h2⟩ := k
  refine ⟨h1, ?_⟩
  rcases h2 with h2 | ⟨g, cap, cur, hv, hb, hh, rest⟩
  · exact .inl h2
  · exact .inr ⟨g, cap, cur, hv, hb, h.2.1 g cur e _ hh ht, rest⟩

theorem cell_set (w : World) (B i : Nat) (v : Value) (p : Addr) (h : p.block ≠ B) : (w.setCell ⟨B, i, none⟩ v).cell? p = w.cell? p := by
  refine World.cell?_of_block (w := w) ?_
  show (w.heap.modify B _)[p.block]? = _
  rw [Array.getElem?_modify, if_neg (fun e => h e.symm)]
/-- A cell of a block of one of these types, which holds no byte, written. -/
theorem Frm.set {T : List TypeId} {n₀ B i : Nat} {w : World} {t : TypeId} {cs : Array Value} (h : Cel w B t cs) (ht : t ∈ T) (hn : n₀ ≤ B) (hi : ∀ (j : Nat) (z : Int), cs[j]? ≠ some (.int .u8 z)) (v : Value) : Frm T n₀ w (w.setCell ⟨B, i, none⟩ v) := by
  refine ⟨(Below.refl _ _).setCell (p := ⟨B, i, none⟩) hn v, fun b cs' t' fr hb ht' => ?_, fun p z hp => ?_⟩
  · show (w.heap.modify B _)[b]? = _
    rw [Array.getElem?_modify, if_neg ?_]
    · exact hb
    · rintro rfl
      have := hb.symm.trans h
      injection this with this
      injection this with _ e2 _
      exact ht' (e2 ▸ ht)
  · by_cases e : p.block = B
    · exfalso
      obtain ⟨b, o, s⟩ := p
      cases World.cell?_spot hp
      simp only at e
      subst e
      rw [h.at_] at hp
      exact hi _ _ hp
    · rw [cell_set _ _ _ _ _ e]; exact hp
theorem no_byte2 {a b : Int} (j : Nat) (z : Int) : (#[Value.int .i64 a, .int .i64 b] : Array Value)[j]? ≠ some (.int .u8 z) := by
  match j with
  | 0 => intro h; cases h
  | 1 => intro h; cases h
  | j + 2 => intro h; simp at h
/-- Both numbers of a place written. -/
theorem Frm.two {T : List TypeId} {n₀ B : Nat} {w : World} {t : TypeId} {a b x y : Int} (h : Cel w B t #[.int .i64 a, .int .i64 b]) (ht : t ∈ T) (hn : n₀ ≤ B) : Frm T n₀ w ((w.setCell ⟨B, 0, none⟩ (.int .i64 x)).setCell ⟨B, 1, none⟩ (.int .i64 y)) :=
  (Frm.set h ht hn no_byte2 _).trans (Frm.set (h.set 0 (.int .i64 x)) ht hn no_byte2 _)

/-! ### Lists of pages -/
/-- Where a page lies. -/
abbrev Pp := Option Addr × Nat
def pv (r : Pp) : Value := .slice r.1 512 r.2
theorem pv_one (rs : List Pp) : ∀ u ∈ rs.map pv, u.oneCell' = true := by
  intro u hu
  obtain ⟨r, _, rfl⟩ := List.mem_map.1 hu
  rfl
def Goods (w : World) (rs : List Pp) (L : List (List Sl)) : Prop := ∀ (k : Nat) (r : Pp) (S : List Sl), rs[k]? = some r → L[k]? = some S → Good w r.1 r.2 S
/-- A slice that reads as these pages. -/
def PL (w : World) (A : Option Addr) (n c : Nat) (L : List (List Sl)) : Prop :=
  ∃ rs : List Pp, rs.length = n ∧ L.length = n ∧ Row w w.heap.size A (rs.map pv) ∧ n ≤ c ∧ c ≤ 9223372036854775807 ∧ (A = none → c = 0) ∧ Tyd w A 32 ∧ Goods w rs L
theorem Goods.below {w w' : World} {rs : List Pp} {L : List (List Sl)} (h : Goods w rs L) (hb : Below w.heap.size w w') : Goods w' rs L := fun k r S h1 h2 => (h k r S h1 h2).below hb
theorem PL.below {w w' : World} {A : Option Addr} {n c : Nat} {L : List (List Sl)} (h : PL w A n c L) (hb : Below w.heap.size w w') : PL w' A n c L := by
  obtain ⟨rs, h1, h2, h3, h4, h5, h6, h7, h8⟩ := h
  exact ⟨rs, h1, h2, (h3.below hb (Nat.le_refl _)).more hb.size, h4, h5, h6, h7.below hb, h8.below hb⟩
theorem Frm.pl {T : List TypeId} {n₀ : Nat} {a b : World} (h : Frm T n₀ a b) (ht : 32 ∉ T) {A : Option Addr} {n c : Nat} {L : List (List Sl)} (k : PL a A n c L) : PL b A n c L := by
  obtain ⟨rs, h1, h2, h3, h4, h5, h6, h7, h8⟩ := k
  exact ⟨rs, h1, h2, h.row ht h7 h3, h4, h5, h6, h.tyd ht h7, fun i r S e1 e2 => h.good (h8 i r S e1 e2)⟩
theorem PL.nil (w : World) : PL w none 0 0 [] := ⟨[], rfl, rfl, Row.none_, Nat.le_refl _, by decide, fun _ => rfl, Tyd.none_ _ _, fun k r S h => by simp at h⟩
theorem PL.len {w : World} {A : Option Addr} {n c : Nat} {L : List (List Sl)} (h : PL w A n c L) : L.length = n := by
  obtain ⟨rs, _, h2, _⟩ := h; exact h2
theorem PL.cap {w : World} {A : Option Addr} {n c : Nat} {L : List (List Sl)} (h : PL w A n c L) : n ≤ c ∧ c ≤ 9223372036854775807 ∧ (A = none → c = 0) := by
  obtain ⟨rs, _, _, _, h4, h5, h6, _⟩ := h; exact ⟨h4, h5, h6⟩
theorem PL.get {w : World} {A : Option Addr} {n c k : Nat} {L : List (List Sl)} (h : PL w A n c L) (hk : k < n) :
    ∃ b o A' c', A = some ⟨b, o, none⟩ ∧ b < w.heap.size ∧ w.cell? ⟨b, o + k, none⟩ = some (.slice A' 512 c') ∧ Good w A' c' (pageOf L k) := by
  obtain ⟨rs, h1, h2, h3, h4, h5, h6, h7, h8⟩ := h
  have hr : rs[k]? = some rs[k] := List.getElem?_eq_getElem (by omega)
  obtain ⟨b, o, e, hb, hc⟩ := h3 k (pv rs[k]) (by rw [List.getElem?_map, hr]; rfl)
  exact ⟨b, o, rs[k].1, rs[k].2, e, hb, hc, h8 k _ _ hr (pageOf_lt (by omega))⟩
theorem PL.take {w : World} {A : Option Addr} {n c : Nat} {L : List (List Sl)} (h : PL w A n c L) (k : Nat) (hk : k ≤ n) : PL w A k c (L.take k) := by
  obtain ⟨rs, h1, h2, h3, h4, h5, h6, h7, h8⟩ := h
  refine ⟨rs.take k, by rw [List.length_take]; omega, by rw [List.length_take]; omega, by rw [List.map_take]; exact h3.take, by omega, h5, h6, h7, fun i r S e1 e2 => ?_⟩
  rw [List.getElem?_take] at e1 e2
  split at e1
  · rename_i hi
    rw [if_pos hi] at e2
    exact h8 i r S e1 e2
  · cases e1
/-- A list of pages that the call owns. -/
def MadeP (w : World) (v : Value) (rs : List Pp) (w' : World) : Prop := w'.ownsRow w.heap.size 32 1 v rs.length (rs.map pv) ∧ Below w.heap.size w w'
theorem MadeP.start {w w' : World} (h : Below w.heap.size w w') : MadeP w (.slice none 0 0) [] w' := ⟨World.ownsRow_nil _ _ _ _, h⟩
theorem MadeP.below {w w' w2 : World} {v : Value} {rs : List Pp} (h : MadeP w v rs w') (hb : Below w'.heap.size w' w2) : MadeP w v rs w2 := by
  refine ⟨?_, Mem.on h.2 hb⟩
  obtain ⟨a, b⟩ := h.1
  refine ⟨a, ?_⟩
  rcases b with b | ⟨g, cap, cur, e1, hg, hh, rest⟩
  · exact .inl b
  · exact .inr ⟨g, cap, cur, e1, hg, (hb.block g (blk_lt hh)).trans hh, rest⟩
theorem MadeP.pl {w w' : World} {v : Value} {rs : List Pp} {L : List (List Sl)} (h : MadeP w v rs w') (hl : rs.length = L.length) (hd : Goods w' rs L) : ∃ A c, v = .slice A L.length c ∧ PL w' A L.length c L := by
  obtain ⟨h1, h2⟩ := h
  rcases h1.2 with ⟨rfl, h0⟩ | ⟨g, cap, cur, rfl, hB, hg, hnc, hcm, hsz, htk⟩
  · exact ⟨none, 0, by rw [← hl, h0], rs, hl, rfl, Row.own (c := 0) (e := 32) (base := w.heap.size) (n := rs.length) (show w'.ownsRow _ _ 1 (.slice none rs.length 0) rs.length _ from (by rw [h0] at h1 ⊢; exact h1)), by omega, by decide, fun _ => rfl, Tyd.none_ _ _, hd⟩
  · exact ⟨some ⟨g, 0, none⟩, cap, by rw [hl], rs, hl, rfl, Row.own h1, by omega, by unfold maxLen at hcm; omega, (fun e => by cases e), (fun b o e => by injection e with e; injection e with e1 e2; subst e1; exact ⟨_, _, hg⟩), hd⟩
theorem MadeP.form {w w' : World} {v : Value} {rs : List Pp} (h : MadeP w v rs w') (h0 : 0 < rs.length) : ∃ g c, v = .slice (some ⟨g, 0, none⟩) rs.length c ∧ w.heap.size ≤ g ∧ g < w'.heap.size := by
  rcases h.1.2 with ⟨rfl, h1⟩ | ⟨g, cap, cur, rfl, hB, hg, _⟩
  · omega
  · exact ⟨g, cap, rfl, hB, blk_lt hg⟩
theorem MadeP.slice {w w' : World} {v : Value} {rs : List Pp} (h : MadeP w v rs w') : ∃ A c, v = .slice A rs.length c ∧ (A = none → c = 0) ∧ rs.length ≤ c ∧ c ≤ 9223372036854775807 := by
  rcases h.1.2 with ⟨rfl, h1⟩ | ⟨g, cap, cur, rfl, hB, hg, hnc, hcm, _⟩
  · exact ⟨none, 0, by rw [h1], fun _ => rfl, by omega, by decide⟩
  · exact ⟨_, cap, rfl, (fun e => by cases e), hnc, by unfold maxLen at hcm; omega⟩
theorem infoPages : (Try.prog.info? 32).map (fun i => (i.zero, i.size, i.bytes)) = some (some (.slice none 0 0), 1, 24) := by kernel_rfl
theorem elem_pages : Elem Try.prog 53 32 24 := Elem.of Try.underlying53 infoPages rfl
/-- One page behind a list of the call's own. -/
theorem wp_page {w0 w : World} {ops : Array Oper} {rest : List Oper} {o : Oper} {a : Act} {Q : Exit → Act → World → Prop} (s y : Operand)
    (hgd : o.guard = none) (ho : o.op = .call { callee := .builtin .append, args := #[s, y], argTypes := #[53, 53] })
    {v : Value} {rs : List Pp} {A : Option Addr} {c : Nat} (hs : a.eval s = v) (hown : MadeP w0 v rs w) (hy : a.eval y = .slice (some ⟨w.heap.size, 0, none⟩) 1 1) (hn : rs.length ≤ 2000)
    (h : ∀ v' w', MadeP w0 v' (rs ++ [(A, c)]) w' → (w.alloc (.cells #[.slice A 512 c] 32)).grownBy w' v.ownBlock → wpList Try.prog ops Q rest (a.put o.dst v') w') :
    wpList Try.prog ops Q (o :: rest) a (w.alloc (.cells #[.slice A 512 c] 32)) := by
  refine wp_one elem_pages w0.heap.size s y hgd ho hs hown.1 hy rfl (by omega) (by omega) hown.2.size fun v' w' g1 g2 _ => h v' w' ⟨?_, (al hown.2 _).grown g2 (al hown.2 _).size (fun k hk => (hown.1.lt k hk).1)⟩ g2
  have e1 : (rs ++ [(A, c)]).length = rs.length + 1 := by simp
  have e2 : (rs ++ [(A, c)]).map pv = rs.map pv ++ [.slice A 512 c] := by simp [pv]
  rw [e1, e2]
  exact g1
end Go.Proofs.Ythcilmlaoddckaa.Pg
