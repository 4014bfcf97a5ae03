import Derived.Test.YtlkmhdbmcfblkaaGreatDoorExParses
import Derived.Test.YtlkmhdbmcfblkaaGreatDoorRsAlls
/- The law's example: ranks are kept. -/
namespace Go.Proofs.YtlkmhdbmcfblkaaGreatDoor.Ep
open Go.RowKit Go.Proofs.YtlkmhdbmcfblkaaGreatDoor.Mem Go.Proofs.YtlkmhdbmcfblkaaGreatDoor.Right Go.Proofs.YtlkmhdbmcfblkaaGreatDoor.Lx
set_option linter.unusedVariables false

def wE : Ex := bin 1 (un 2 (bin 3 (col [97]) (lit 1 1 []))) (col [98])
theorem wE_rt : Rt wE := .bin (by decide) (by decide) (.un (by decide) (by decide) (.bin (by decide) (by decide) (.col (by decide)) (.lit (by decide) (by decide) (by decide) (by decide)))) (.col (by decide))
theorem wE_text : tx (pcs wE) = [78, 79, 84, 32, 97, 32, 61, 32, 49, 32, 79, 82, 32, 98] := by decide +kernel
theorem wE_low : high wE = false := by decide +kernel
theorem wE_told : Told [78, 79, 84, 32, 97, 32, 61, 32, 49, 32, 79, 82, 32, 98] (wE, 0, 0) := by
  obtain ⟨V, hV⟩ := told_some [78, 79, 84, 32, 97, 32, 61, 32, 49, 32, 79, 82, 32, 98]
  rw [← wE_text] at hV
  obtain ⟨b1, b2, b3⟩ := back_text wE_rt
  have := told_of hV (by rw [wE_text]; decide) (b1 (by decide +kernel)) b3 wE_low
  rw [this, wE_text] at hV
  exact hV
theorem wE_cells {w1 : World} {cs : List Value} (hx : ExAt w1 w1.heap.size wE cs) : ∃ b1 p1 c b3 p3 c1, cs = [.int .i64 5, .int .i64 1, .int .i64 0, .int .i64 0, .string (Ep.txt []), .string (Ep.txt []), .slice (some ⟨b1, p1, none⟩) 2 c] ∧
    w1.cell? ⟨b1, p1 + 1, none⟩ = some (.int .i64 2) ∧ w1.cell? ⟨b1, p1 + 6, none⟩ = some (.slice (some ⟨b3, p3, none⟩) 1 c1) ∧ w1.cell? ⟨b3, p3 + 1, none⟩ = some (.int .i64 3) := by
  unfold wE bin un at hx
  obtain ⟨A, n, c, rfl, hn, -, -, -, hk⟩ := ex_open hx
  obtain ⟨k1, o1, vk1, vn1, vs1, nm1, ks1, A1, n1, c1, b1, p1, g1, rfl, -, hn1, q0, q1, -, -, -, -, q6, hx1⟩ := kid_at (j := 0) hk rfl
  injection g1 with a1 a2 a3 a4 a5 a6 a7
  subst a1 a2 a3 a4 a5 a6 a7
  obtain ⟨A2, n2, c2, g4, hn2, -, -, -, hk2⟩ := ex_open hx1
  have g5 : Value.slice A1 n1 c1 = .slice A2 n2 c2 := List.head_eq_of_cons_eq (List.tail_eq_of_cons_eq (List.tail_eq_of_cons_eq (List.tail_eq_of_cons_eq (List.tail_eq_of_cons_eq (List.tail_eq_of_cons_eq (List.tail_eq_of_cons_eq g4))))))
  injection g5 with b1' b2' b3'
  subst b1' b2' b3'
  obtain ⟨k3, o3, vk3, vn3, vs3, nm3, ks3, A3, n3, c3, b3, p3, g6, rfl, -, -, r0, r1, -, -, -, -, -, -⟩ := kid_at (j := 0) hk2 rfl
  injection g6 with d1 d2 d3 d4 d5 d6 d7
  subst d1 d2 d3 d4 d5 d6 d7
  rw [Nat.zero_mul, Nat.add_zero] at q1 q6 r1
  subst hn
  rw [hn1] at q6
  exact ⟨b1, p1, c, b3, p3, c1, rfl, q1, q6, r1⟩
set_option maxHeartbeats 4000000 in
set_option maxRecDepth 100000 in
theorem works_any (w : World) (hw : Wd w) : Calls Tryz.prog 6 #[] w fun e w' => e = .returned (.bool true) ∧ Below w.heap.size w w' := by
  have HP := Lib.hid (parse_any (w := w) ⟨#[78, 79, 84, 32, 97, 32, 61, 32, 49, 32, 79, 82, 32, 98]⟩ (by decide) hw wE_told)
  clear hw
  go_enter Tryz.func6, Tryz.ntmps6
  go_wp2_with (go_at_call 19; (refine HP.out.mono ?_); rintro e' w1 ⟨cs, rfl, hx, hb1⟩; obtain ⟨b1, p1, c, b3, p3, c1, rfl, q1, q6, r1⟩ := wE_cells hx; (have HB := Lib.hid (al hb1 (.cells #[.int .i64 5, .int .i64 1, .int .i64 0, .int .i64 0, .string (Ep.txt []), .string (Ep.txt []), .slice (some ⟨b1, p1, none⟩) 2 c] tE))); (replace q1 := past q1 (.cells #[.int .i64 5, .int .i64 1, .int .i64 0, .int .i64 0, .string (Ep.txt []), .string (Ep.txt []), .slice (some ⟨b1, p1, none⟩) 2 c] tE)); (replace q6 := past q6 (.cells #[.int .i64 5, .int .i64 1, .int .i64 0, .int .i64 0, .string (Ep.txt []), .string (Ep.txt []), .slice (some ⟨b1, p1, none⟩) 2 c] tE)); (replace r1 := past r1 (.cells #[.int .i64 5, .int .i64 1, .int .i64 0, .int .i64 0, .string (Ep.txt []), .string (Ep.txt []), .slice (some ⟨b1, p1, none⟩) 2 c] tE)); clear hb1 hx)
  go_ret
  exact ⟨rfl, HB.out⟩
end Go.Proofs.YtlkmhdbmcfblkaaGreatDoor.Ep
/- What the law of Take lays ahead of the calls: tokens copied, one by one and all at once. -/
namespace Go.Proofs.YtlkmhdbmcfblkaaGreatDoor.Ep
open Go.RowKit Go.Proofs.YtlkmhdbmcfblkaaGreatDoor.Mem Go.Proofs.YtlkmhdbmcfblkaaGreatDoor.Right Go.Proofs.YtlkmhdbmcfblkaaGreatDoor.Lx Go.Deep
set_option linter.unusedVariables false

/-- A list of tokens of the document's in a slice of the call's own. -/
def OwnK (w : World) (base : Nat) (v : Value) (l : List To) : Prop := OwnD w base tRT 3 (fun _ => False) v (l.map toDt)
theorem elemRT : ElemK Tryz.prog 24 tRT 3 32 :=
  ElemK.of (z := .agg #[.int .i64 0, .string ⟨#[]⟩, .int .i64 0]) Tryz.underlying24 (by kernel_rfl) (by decide) (by decide)
abbrev tLT : TypeId := 26
theorem elemLT : ElemK Tryz.prog 22 tLT 3 32 :=
  ElemK.of (z := .agg #[.int .i64 0, .string ⟨#[]⟩, .int .i64 0]) Tryz.underlying22 (by kernel_rfl) (by decide) (by decide)
theorem OwnK.toks {w : World} {base n c : Nat} {A : Option Addr} {l : List To} (h : OwnK w base (.slice A n c) l) : ToksIn w (fun b => base ≤ b ∧ b < w.heap.size) A l := by
  have hr := OwnD.row (by decide) h
  refine toks_row (RowIn.to (fun b hb => ?_) (fun _ _ => rfl) hr)
  rcases hb with hb | hb
  · exact hb.elim
  · exact OwnD.lt h b hb
theorem OwnK.on {w w' : World} {base : Nat} {v : Value} {l : List To} (h : OwnK w base v l) (hb : Below w.heap.size w w') : OwnK w' base v l :=
  OwnD.kept (row := none) h (grown_below hb) (by cases h : v.ownBlock <;> simp) (fun b hb => hb.elim)
/-- One more datum behind a list of the call's own, in a region that draws. -/
theorem step_dt {P : Program} {w1 : World} {v : Value} {l : List Dt} {x : Dt} {cs : List Value} {S : Nat → Prop} {base g n k : Nat} {t te tc : TypeId} {bytes : Nat} (E : ElemK P t te k bytes) (hown : OwnD w1 base te k S v l) (hx : DtIn w1 S x cs) (hck : cs.length = k) (hc1 : ∀ u ∈ cs, u.oneCell' = true)
    {fr : Nat × Nat} {ops : Array Oper} {o : Oper} {a : Act} {K : Act → World → Prop} {Q : Exit → Act → World → Prop} {F : Prop} (s y : Operand)
    (hgd : o.guard = none) (ho : o.op = .call { callee := .builtin .append, args := #[s, y], argTypes := #[t, t] })
    (hs : a.eval s = v) (hy : a.eval y = .slice (some ⟨g, 0, none⟩) 1 1) (hrow : w1.heap[g]? = some (.cells cs.toArray tc fr)) (hS : ∀ b, S b → b < w1.heap.size ∧ some b ≠ v.ownBlock) (hn : l.length = n) (hb : (n + 1) * bytes ≤ 140737488355328) (hm : n + 1 ≤ maxLen) (hB : base ≤ w1.heap.size)
    (kk : ∀ g' cap w', OwnD w' base te k S (.slice (some ⟨g', 0, none⟩) (n + 1) cap) (l ++ [x]) → w1.grownBy w' v.ownBlock → (v.ownBlock = some g' ∨ g' = w1.heap.size) → g' < w'.heap.size → K (a.put o.dst (.slice (some ⟨g', 0, none⟩) (n + 1) cap)) w') :
    if Region.wanted o (yielded ops a.tmps) = true then Oper.wp P o a w1 K Q else F := by
  subst hn
  obtain ⟨i, z, ht, hi, hz, hz1, hz2, hzc, hk0⟩ := E
  obtain ⟨css, hl, h7, hrow1, hcs⟩ := hown
  refine step_append_lies _ hgd s y t ho base te i z k bytes ht hi hz hz1 hz2 hzc hk0 v l.length css.flatten hs hrow1 ⟨g, 0, none⟩ 1 1 cs hy (by omega) (by have := World.news_of_block hrow; simpa using this) hc1 (by decide) hm hb hB w1.heap.size rfl fun g' cap w' g1 g2 g3 g4 => ?_
  refine kk g' cap w' ⟨css ++ [cs], by simp [hl], fun c hc => ?_, ?_, fun j d cs' he hc' => ?_⟩ g2 g3 g4
  · rcases List.mem_append.1 hc with hc | hc
    · exact h7 c hc
    · rw [List.mem_singleton.1 hc]; exact hck
  · rw [show (l ++ [x]).length = l.length + 1 by simp, show (css ++ [cs]).flatten = css.flatten ++ cs by simp]
    exact g1
  · have hfar : ∀ p : Addr, S p.block → w'.cell? p = w1.cell? p := fun p hp => World.cell?_of_block (g2.block p.block (hS _ hp).1 (hS _ hp).2)
    rcases Nat.lt_or_ge j l.length with hj | hj
    · rw [List.getElem?_append_left hj] at he
      rw [List.getElem?_append_left (by omega)] at hc'
      exact DtIn.to (fun _ h => h) hfar d cs' (hcs j d cs' he hc')
    · rw [List.getElem?_append_right hj] at he
      rw [List.getElem?_append_right (by omega), hl] at hc'
      have hj0 : j - l.length = 0 := by
        have := (List.getElem?_eq_some_iff.1 he).1
        simp at this; omega
      rw [hj0] at he hc'
      simp at he hc'
      subst he hc'
      exact DtIn.to (fun _ h => h) hfar _ _ hx
/-- All tokens behind an empty list, written out. -/
theorem wp_toks {w : World} {B n0 : Nat} {L : List To} {A : Option Addr} {c g : Nat} {ops : Array Oper} {rest : List Oper} {o : Oper} {a : Act} {Q : Exit → Act → World → Prop} (s y : Operand)
    (hgd : o.guard = none) (ho : o.op = .call { callee := .builtin .append, args := #[s, y], argTypes := #[22, 22] })
    (hs : a.eval s = .slice (some ⟨g, 0, none⟩) 0 0) (hown : Cel w g tLT #[]) (hg : n0 ≤ g) (hA : A = none → c = 0) (hy : a.eval y = .slice A L.length c) (hr : ToksIn w (fun b => b < B) A L) (hn : L.length ≤ 1000)
    (h : ∀ A' c' w', ToksIn w' (fun b => b < w'.heap.size) A' L → Below n0 w w' → wpList Tryz.prog ops Q rest (a.put o.dst (.slice A' L.length c')) w') : wpList Tryz.prog ops Q (o :: rest) a w := by
  obtain ⟨i, z, ht, hi, hz, hz1, hz2, hzc, _⟩ := elemLT
  have hO : w.ownsRow n0 tLT 3 (.slice (some ⟨g, 0, none⟩) 0 0) 0 [] := ⟨rfl, .inr ⟨g, 0, #[], rfl, hg, hown, Nat.le_refl _, Nat.zero_le _, rfl, rfl⟩⟩
  have hgs := hown.lt
  have h3 : ∀ cs ∈ L.map toC, cs.length = 3 := fun cs hc => by
    obtain ⟨x, _, rfl⟩ := List.mem_map.1 hc
    rfl
  have hfl : (L.map toC).flatten.length = L.length * 3 := by rw [flatk_len h3, List.length_map]
  cases A with
  | none =>
    have hc := hA rfl
    subst hc
    have hl : L = [] := by
      cases L with
      | nil => rfl
      | cons x r =>
        obtain ⟨b, o', he, _⟩ := hr 0 x (by simp)
        cases he
    subst hl
    refine wpList_append_own_none hgd s y 22 ho n0 tLT i 3 ht hi _ 0 [] hs hO hy ?_
    exact h _ _ _ (fun j x hx => by simp at hx) (Below.refl _ _)
  | some ad =>
    refine wpList_append_own_at _ hgd s y 22 ho n0 tLT i z 3 32 ht hi hz hz1 hz2 hzc (by decide) _ 0 [] hs hO ad L.length c (L.map toC).flatten hy hfl ?_ ?_ (by unfold maxLen; omega) (by omega) (by omega) fun v' w' g1 g2 _ g3 => ?_
    · intro j u hu
      have hj := (List.getElem?_eq_some_iff.1 hu).1
      rw [hfl] at hj
      obtain ⟨x, hx⟩ := to_some (L := L) (p := j / 3) (by omega)
      obtain ⟨b, o', he, hb, e0, e1, e2⟩ := hr _ x hx
      obtain rfl := Option.some.inj he
      have hadd : (⟨b, o', none⟩ : Addr).add j = ⟨b, o' + j, none⟩ := by unfold Addr.add; split <;> simp_all
      rw [hadd]
      have hm : (L.map toC)[j / 3]? = some (toC x) := by rw [List.getElem?_map, hx]; rfl
      have hu' : ∀ (i : Nat) (v : Value), (toC x)[i]? = some v → j = j / 3 * 3 + i → u = v := fun i v hv hji => by
        have := flatk_at h3 hm hv
        rw [← hji, hu] at this
        exact Option.some.inj this
      have h3m : j % 3 = 0 ∨ j % 3 = 1 ∨ j % 3 = 2 := by omega
      rcases h3m with hm0 | hm0 | hm0
      · rw [hu' 0 _ rfl (by omega), show o' + j = o' + j / 3 * 3 by omega]; exact e0
      · rw [hu' 1 _ rfl (by omega), show o' + j = o' + j / 3 * 3 + 1 by omega]; exact e1
      · rw [hu' 2 _ rfl (by omega), show o' + j = o' + j / 3 * 3 + 2 by omega]; exact e2
    · intro u hu
      obtain ⟨cs, hcs, huc⟩ := List.mem_flatten.1 hu
      obtain ⟨x, _, rfl⟩ := List.mem_map.1 hcs
      unfold toC at huc
      rcases List.mem_cons.1 huc with rfl | huc
      · rfl
      rcases List.mem_cons.1 huc with rfl | huc
      · rfl
      rw [List.mem_singleton.1 huc]
      rfl
    · rw [List.nil_append, Nat.zero_add] at g1
      have hbl : Below n0 w w' := (Below.refl n0 w).grown g2 (by omega) (fun k hk => by
        have : g = k := Option.some.inj hk
        omega)
      rcases g1.2 with ⟨rfl, h0⟩ | ⟨g', cap, cur, rfl, hbg, hcel, hcap, hmx, hsz, htk⟩
      · have : L = [] := List.length_eq_zero_iff.1 h0
        subst this
        exact h _ _ _ (fun j x hx => by simp at hx) hbl
      · refine h _ _ _ (fun j x hx => ⟨g', 0, rfl, (blk_lt hcel), ?_, ?_, ?_⟩) hbl
        all_goals
          have hm : (L.map toC)[j]? = some (toC x) := by rw [List.getElem?_map, hx]; rfl
          have hat : ∀ (i : Nat) (v : Value), (toC x)[i]? = some v → w'.cell? ⟨g', 0 + j * 3 + i, none⟩ = some v := fun i v hv => by
            have := g1.cells (g := g') rfl _ _ (flatk_at h3 hm hv)
            have e2 : (⟨g', 0, none⟩ : Addr).add (j * 3 + i) = ⟨g', j * 3 + i, none⟩ := by unfold Addr.add; split <;> simp_all
            rw [e2] at this
            rw [show 0 + j * 3 + i = j * 3 + i by omega]
            exact this
        · exact hat 0 _ rfl
        · exact hat 1 _ rfl
        · exact hat 2 _ rfl
end Go.Proofs.YtlkmhdbmcfblkaaGreatDoor.Ep
