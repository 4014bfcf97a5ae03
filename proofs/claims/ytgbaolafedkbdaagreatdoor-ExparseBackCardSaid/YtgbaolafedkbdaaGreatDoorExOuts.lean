import Derived.Test.YtgbaolafedkbdaaGreatDoorExBuilds
import Derived.Test.YtgbaolafedkbdaaGreatDoorExTexts
/- What a text becomes that is written piece by piece, and no further where it is too long; the table of signs; a printer in memory. -/
namespace Go.Proofs.YtgbaolafedkbdaaGreatDoor.Ep
open Go.RowKit Go.Proofs.YtgbaolafedkbdaaGreatDoor.Mem Go.Proofs.YtgbaolafedkbdaaGreatDoor.Right Go.Proofs.YtgbaolafedkbdaaGreatDoor.Lx
set_option linter.unusedVariables false

/-- Behind l comes T, or what is there is too long, as it would be then. -/
def WT (l T l' : List UInt8) : Prop := l.length ≤ l'.length ∧ l'.length ≤ l.length + T.length ∧ (l' = l ++ T ∨ (400 < l'.length ∧ 400 < l.length + T.length))
theorem WT.lit (l T : List UInt8) : WT l T (l ++ T) := ⟨by simp, by simp, .inl rfl⟩
theorem WT.trans {l T1 l1 T2 l2 : List UInt8} (h : WT l T1 l1) (k : WT l1 T2 l2) : WT l (T1 ++ T2) l2 := by
  obtain ⟨h1, h2, h3⟩ := h
  obtain ⟨k1, k2, k3⟩ := k
  refine ⟨by omega, by rw [List.length_append]; omega, ?_⟩
  rw [List.length_append]
  rcases h3 with rfl | ⟨a, b⟩
  · rcases k3 with rfl | ⟨a, b⟩
    · exact .inl (List.append_assoc _ _ _)
    · rw [List.length_append] at b
      exact .inr ⟨a, by omega⟩
  · exact .inr ⟨by omega, by omega⟩
theorem WT.stop {l : List UInt8} (T : List UInt8) (h : 400 < l.length) : WT l T l := ⟨Nat.le_refl _, by omega, .inr ⟨h, by omega⟩⟩
/-- What is told behind all. -/
theorem WT.told {T l' : List UInt8} (h : WT [] T l') : (400 < l'.length ↔ 400 < T.length) ∧ (l'.length ≤ 400 → l' = T) := by
  obtain ⟨h1, h2, h3⟩ := h
  rcases h3 with h3 | ⟨a, b⟩
  · rw [List.nil_append] at h3
    subst h3
    exact ⟨Iff.rfl, fun _ => rfl⟩
  · simp at b
    exact ⟨⟨fun _ => b, fun _ => a⟩, fun g => by omega⟩

/-! ### The table of signs -/
def osl : List (List UInt8) := [[79, 82], [65, 78, 68], [61], [60, 62], [60], [60, 61], [62], [62, 61], [43], [45], [42], [47], [37], [124, 124]]
/-- The variable holds them. -/
def OsT (w : World) : Prop := ∀ (k : Nat) (v : Value), (osl.map fun l => Value.string ⟨l.toArray⟩)[k]? = some v → w.cell? ⟨1, k, none⟩ = some v
/-- What a printer reads of the program's variables: the signs; and of the library's a number. -/
def Osg (w : World) : Prop := OsT w ∧ ∃ m : Int, w.cell? ⟨4, 0, none⟩ = some (.int .i64 m)
/-- Both variables lie below what comes above this. -/
abbrev gTop : Nat := max 1 4
theorem g_signs {B : Nat} (h : gTop < B) : 1 < B := Nat.lt_of_le_of_lt (Nat.le_max_left _ _) h
theorem g_max {B : Nat} (h : gTop < B) : 4 < B := Nat.lt_of_le_of_lt (Nat.le_max_right _ _) h
theorem Osg.below {w w' : World} {B : Nat} (h : Osg w) (hb : Below B w w') (hB : gTop < B) : Osg w' :=
  ⟨fun k v hv => (hb.cell (p := ⟨1, k, none⟩) (g_signs hB)).trans (h.1 k v hv), by
    obtain ⟨m, hm⟩ := h.2
    exact ⟨m, (hb.cell (p := ⟨4, 0, none⟩) (g_max hB)).trans hm⟩⟩
theorem Osg.lt {w : World} (h : Osg w) : gTop < w.heap.size := by
  obtain ⟨m, hm⟩ := h.2
  exact Nat.max_lt.2 ⟨cell_lt (h.1 0 _ rfl), cell_lt hm⟩
theorem osg_of_laid {l : List (String × DataW Unit)} {W : World} (h : laidMetH Tryz.prog l W) (hsh : W.ShapedOpen Tryz.prog) (hp : (l.all fun x => x.2.handleName?.isNone) = true) (hm : ("registrar/expr.signs", (Rows.laid_registrar_expr_signs : DataW Unit)) ∈ l) : Osg W :=
  ⟨laid_texts (L := osl) h hp hm (by kernel_rfl) (by kernel_rfl) Tryz.underlying119 Tryz.underlying9 (by kernel_rfl) rfl, some_max hsh⟩
theorem Osg.sign {w : World} (h : Osg w) {j : Nat} (hj : j < 14) : w.cell? ⟨1, j, none⟩ = some (.string (txt (sg ((j : Int) + 1)))) := by
  refine h.1 j _ ?_
  match j, hj with
  | 0, _ | 1, _ | 2, _ | 3, _ | 4, _ | 5, _ | 6, _ | 7, _ | 8, _ | 9, _ | 10, _ | 11, _ | 12, _ | 13, _ => rfl

/-- Nothing that was there has turned: a builder is as it was. -/
theorem Bl.below {b : Nat} {l : List UInt8} {w w' : World} (h : Bl b l w) (hb : Below w.heap.size w w') : Bl b l w' := by
  have go : ∀ p, Lib.BuilderAtF tB t8 b b p (Lib.byteCells l) w → Lib.BuilderAtF tB t8 b b p (Lib.byteCells l) w' := fun p h => by
    obtain ⟨h1, v, h2, h3, h4⟩ := h
    refine ⟨h1, v, (hb.block b (blk_lt h2)).trans h2, ⟨h3.1, ?_⟩, h4⟩
    rcases h3.2 with h5 | ⟨g, cap, cur, fz, hv, hg1, hg2, rest⟩
    · exact .inl h5
    · exact .inr ⟨g, cap, cur, fz, hv, hg1, (hb.block g (blk_lt hg2)).trans hg2, rest⟩
  exact ⟨h.1.elim (fun x => .inl (go _ x)) (fun x => .inr (go _ x)), Nat.le_trans h.2 hb.size⟩

/-! ### A printer -/
abbrev tP : TypeId := 72
abbrev prV (b : Nat) : Value := .agg #[.func (.func 25) #[.pointer (some ⟨b, 0, none⟩)] #[], .func (.func 26) #[.pointer (some ⟨b, 0, none⟩)] #[]]
abbrev prC (b : Nat) : Array Value := #[.func (.func 25) #[.pointer (some ⟨b, 0, none⟩)] #[], .func (.func 26) #[.pointer (some ⟨b, 0, none⟩)] #[]]
/-- An expression is written without brackets. -/
def BareC (e : Ex) : Prop := ∀ (cs : List Value) (b : Nat) (l : List UInt8) (w : World), ExAt w b e cs → Bl b l w → Osg w → gTop < b → l.length + (tx (pcs e)).length ≤ 1000000 →
  Calls Tryz.prog 47 #[prV b, .agg cs.toArray] w fun x w' => x = .returned (.tuple #[]) ∧ ∃ l', Bl b l' w' ∧ Wr b w w' ∧ WT l (tx (pcs e)) l'
/-- It is written where a rank is asked for. -/
def KidC (e : Ex) : Prop := ∀ (cs : List Value) (b r : Nat) (l : List UInt8) (w : World), ExAt w b e cs → Bl b l w → Osg w → gTop < b → l.length + (tx (kidP e r)).length ≤ 1000000 →
  Calls Tryz.prog 27 #[prV b, .agg cs.toArray, .int .i64 (r : Int)] w fun x w' => x = .returned (.tuple #[]) ∧ ∃ l', Bl b l' w' ∧ Wr b w w' ∧ WT l (tx (kidP e r)) l'
theorem ExAt.wr {w w' : World} {b : Nat} {e : Ex} {cs : List Value} (h : ExAt w b e cs) (hw : Wr b w w') : ExAt w' b e cs := ExAt.below h hw.1
theorem WT.len {l T l' : List UInt8} (h : WT l T l') : l'.length ≤ l.length + T.length := h.2.1
end Go.Proofs.YtgbaolafedkbdaaGreatDoor.Ep
/- An expression is written where a rank is asked for: in brackets, where its own is below that. -/
namespace Go.Proofs.YtgbaolafedkbdaaGreatDoor.Ep
open Go.RowKit Go.Proofs.YtgbaolafedkbdaaGreatDoor.Mem Go.Proofs.YtgbaolafedkbdaaGreatDoor.Right Go.Proofs.YtgbaolafedkbdaaGreatDoor.Lx
set_option linter.unusedVariables false

theorem wr_low {b : Nat} {w a : World} (h : Wr b w a) : Below b w a := h.1
set_option maxHeartbeats 4000000 in
theorem kid_of_bare {e : Ex} (hB : BareC e) : KidC e := by
  intro cs b r l w h hl hO hg hlen
  have hcs := h
  obtain ⟨k, o, vk, vn, vs, nm, kids⟩ := e
  obtain ⟨A, kn, c, rfl, -⟩ := ex_open h
  have hrank : (Ex.mk k o vk vn vs nm kids).rank = rk k o := rfl
  obtain ⟨e, he⟩ : ∃ e, Ex.mk k o vk vn vs nm kids = e := ⟨_, rfl⟩
  rw [he] at hcs hB hrank hlen ⊢
  clear he h
  obtain ⟨rr, hrr⟩ : ∃ rr, rk k o = rr := ⟨_, rfl⟩
  rw [hrr] at hrank
  have hbw := hl.2
  have hw0 := ((Wr.refl b w).alloc hbw (.cells (prC b) tP)).alloc (by simp; omega) (.cells #[.int .i64 k, .int .i64 o, .int .i64 vk, .int .i64 vn, .string (txt vs), .string (txt nm), .slice A kn c] tE)
  have hl0 := (hl.alloc (.cells (prC b) tP)).alloc (.cells #[.int .i64 k, .int .i64 o, .int .i64 vk, .int .i64 vn, .string (txt vs), .string (txt nm), .slice A kn c] tE)
  have hpb : Cel ((w.alloc (.cells (prC b) tP)).alloc (.cells #[.int .i64 k, .int .i64 o, .int .i64 vk, .int .i64 vn, .string (txt vs), .string (txt nm), .slice A kn c] tE)) w.heap.size tP (prC b) := (Cel.new w tP (prC b) rfl).alloc _
  have heb : Cel ((w.alloc (.cells (prC b) tP)).alloc (.cells #[.int .i64 k, .int .i64 o, .int .i64 vk, .int .i64 vn, .string (txt vs), .string (txt nm), .slice A kn c] tE)) (w.heap.size + 1) tE #[.int .i64 k, .int .i64 o, .int .i64 vk, .int .i64 vn, .string (txt vs), .string (txt nm), .slice A kn c] := Cel.new _ tE _ (by simp)
  obtain ⟨W, hW⟩ : ∃ W, (w.alloc (.cells (prC b) tP)).alloc (.cells #[.int .i64 k, .int .i64 o, .int .i64 vk, .int .i64 vn, .string (txt vs), .string (txt nm), .slice A kn c] tE) = W := ⟨_, rfl⟩
  have hbw1 : b < w.heap.size := hl.lt
  rw [hW] at hw0 hl0 hpb heb
  have HW := Lib.hid hw0
  have HLW := Lib.hid hl0
  have HE := Lib.hid (hcs.wr hw0)
  have HP := Lib.hid hpb
  have HEB := Lib.hid heb
  have HO := Lib.hid (hO.below hw0.1 hg)
  have HLEN := Lib.hid hlen
  have HLN := Lib.hid (show Calls Tryz.prog 26 #[.pointer (some ⟨b, 0, none⟩)] W fun e w' => e = .returned (.int .i64 (l.length : Int)) ∧ w' = W from long_any b l W hl0)
  have hX : ∀ W', Wr b W W' → W'.cell? ⟨w.heap.size, 0, none⟩ = some (.func (.func 25) #[.pointer (some ⟨b, 0, none⟩)] #[]) ∧ W'.cell? ⟨w.heap.size, 1, none⟩ = some (.func (.func 26) #[.pointer (some ⟨b, 0, none⟩)] #[]) := fun W' hW' => by
    have := hW'.cel (by omega) (by decide) hpb
    exact ⟨this.at_ 0, this.at_ 1⟩
  have hY : ∀ W', Wr b W W' → W'.cell? ⟨w.heap.size + 1, 0, none⟩ = some (.int .i64 k) ∧ W'.cell? ⟨w.heap.size + 1, 1, none⟩ = some (.int .i64 o) ∧ W'.cell? ⟨w.heap.size + 1, 2, none⟩ = some (.int .i64 vk) ∧ W'.cell? ⟨w.heap.size + 1, 3, none⟩ = some (.int .i64 vn) ∧ W'.cell? ⟨w.heap.size + 1, 4, none⟩ = some (.string (txt vs)) ∧ W'.cell? ⟨w.heap.size + 1, 5, none⟩ = some (.string (txt nm)) ∧ W'.cell? ⟨w.heap.size + 1, 6, none⟩ = some (.slice A kn c) := fun W' hW' => by
    have := hW'.cel (by omega) (by decide) heb
    exact ⟨this.at_ 0, this.at_ 1, this.at_ 2, this.at_ 3, this.at_ 4, this.at_ 5, this.at_ 6⟩
  have HX := Lib.hid hX
  have HY := Lib.hid hY
  have HBR := Lib.hid (show ∀ (l : List UInt8) W', ExAt W' b e [.int .i64 k, .int .i64 o, .int .i64 vk, .int .i64 vn, .string (txt vs), .string (txt nm), .slice A kn c] → Bl b l W' → Osg W' → l.length + (tx (pcs e)).length ≤ 1000000 → Calls Tryz.prog 47 #[prV b, exV k o vk vn (txt vs) (txt nm) A kn c] W' fun x w' => x = .returned (.tuple #[]) ∧ ∃ l', Bl b l' w' ∧ Wr b W' w' ∧ WT l (tx (pcs e)) l' from fun l W' h1 h2 h3 h4 => hB _ b l W' h1 h2 h3 hg h4)
  have HRK := Lib.hid (show ∀ W, Calls Tryz.prog 46 #[exV k o vk vn (txt vs) (txt nm) A kn c] W fun e w' => e = .returned (.int .i64 (rr : Int)) ∧ Below W.heap.size W w' from fun W => by rw [← hrr]; exact rank_any k o vk vn _ _ A kn c W)
  clear hcs hB hlen hw0 hl0 hpb heb hl hO hbw hrr hX hY
  obtain ⟨x0, x1⟩ := HX.out W (Wr.refl _ _)
  obtain ⟨y0, y1, y2, y3, y4, y5, y6⟩ := HY.out W (Wr.refl _ _)
  by_cases hlong : 400 < l.length
  · have tl : decide (400 < (l.length : Int)) = true := decide_eq_true (by omega)
    have HST := Lib.hid (WT.stop (tx (kidP e r)) hlong)
    clear hlong hrank
    go_enter Tryz.func27, Tryz.ntmps27
    go_wp2_with (first | (go_at_call 26; (with_reducible refine HLN.out.mono ?_); rintro e' w1 ⟨rfl, rfl⟩))
    go_end0
    exact ⟨rfl, l, HLW.out, HW.out, HST.out⟩
  have tl : decide (400 < (l.length : Int)) = false := decide_eq_false (by omega)
  clear hlong
  by_cases hrk : rr < r
  · have tr : decide (rr < r) = true := decide_eq_true hrk
    have HT := Lib.hid (show tx (kidP e r) = [40] ++ (tx (pcs e) ++ [41]) by
      unfold kidP asked br
      rw [hrank, decide_eq_true hrk, if_pos rfl, tx_some, tx_app, tx_some]
      rfl)
    have HLEN := Lib.hid (show l.length + (tx (pcs e)).length + 2 ≤ 1000000 by have := HLEN.out; rw [HT.out] at this; simp at this; omega)
    have HPUT := Lib.hid (show ∀ (s : ByteArray) (m : List UInt8) W', Bl b m W' → m.length + s.size ≤ 1000000000 → Calls Tryz.prog 25 #[.pointer (some ⟨b, 0, none⟩), .string s] W' fun e w' => ∃ n, e = .returned (.tuple #[.int .i64 n, .nilIface]) ∧ Bl b (m ++ s.data.toList) w' ∧ Wr b W' w' from fun s m W' h1 h2 => put_any b m s W' h1 h2)
    clear hrk hrank
    go_enter Tryz.func27, Tryz.ntmps27
    go_wp2_with (first
      | (go_at_call 26; (with_reducible refine HLN.out.mono ?_); rintro e' w1 ⟨rfl, rfl⟩)
      | (go_at_call 46; (with_reducible refine (HRK.out _).mono ?_); rintro e' w1 ⟨rfl, hb1⟩; have HR1 := Lib.hid (Wr.of hb1 (Nat.le_of_lt HLW.out.lt)); have HL1 := Lib.hid (HLW.out.below hb1); obtain ⟨x0, x1⟩ := HX.out w1 HR1.out; obtain ⟨y0, y1, y2, y3, y4, y5, y6⟩ := HY.out w1 HR1.out; clear hb1)
      | (go_at_call 25; (with_reducible refine (HPUT.out ⟨#[40]⟩ l w1 HL1.out (by have := HLEN.out; rw [show (ByteArray.mk #[40]).size = 1 from rfl]; omega)).mono ?_); rintro e' w2 ⟨n2, rfl, hl2, hr2⟩; have HL2 := Lib.hid hl2; have HR2 := Lib.hid (HR1.out.trans hr2); obtain ⟨x0, x1⟩ := HX.out w2 HR2.out; obtain ⟨y0, y1, y2, y3, y4, y5, y6⟩ := HY.out w2 HR2.out; clear hl2 hr2)
      | (go_at_call 47; (with_reducible refine (HBR.out (l ++ [40]) w2 (HE.out.wr HR2.out) HL2.out (HO.out.below (wr_low HR2.out) hg) (by have := HLEN.out; rw [List.length_append, List.length_singleton]; omega)).mono ?_); rintro e' w3 ⟨rfl, l3, hl3, hr3, ht3⟩; have HL3 := Lib.hid hl3; have HT3 := Lib.hid ht3; have HR3 := Lib.hid (HR2.out.trans hr3); obtain ⟨x0, x1⟩ := HX.out w3 HR3.out; obtain ⟨y0, y1, y2, y3, y4, y5, y6⟩ := HY.out w3 HR3.out; clear hl3 hr3 ht3)
      | (go_at_call 25; (with_reducible refine (HPUT.out ⟨#[41]⟩ l3 w3 HL3.out (by have := HLEN.out; have := HT3.out.len; rw [List.length_append, List.length_singleton] at this; rw [show (ByteArray.mk #[41]).size = 1 from rfl]; omega)).mono ?_); rintro e' w4 ⟨n4, rfl, hl4, hr4⟩; have HL4 := Lib.hid hl4; have HR4 := Lib.hid (HR3.out.trans hr4); clear hl4 hr4))
    go_end0
    refine ⟨rfl, _, HL4.out, HW.out.trans HR4.out, ?_⟩
    rw [HT.out]
    exact (WT.lit l [40]).trans (HT3.out.trans (WT.lit l3 [41]))
  · have tr : decide (rr < r) = false := decide_eq_false hrk
    have HT := Lib.hid (show tx (kidP e r) = tx (pcs e) by
      unfold kidP asked br
      rw [hrank, decide_eq_false hrk, if_neg (by decide)])
    have HLEN := Lib.hid (show l.length + (tx (pcs e)).length ≤ 1000000 by have := HLEN.out; rw [HT.out] at this; exact this)
    clear hrk hrank
    go_enter Tryz.func27, Tryz.ntmps27
    go_wp2_with (first
      | (go_at_call 26; (with_reducible refine HLN.out.mono ?_); rintro e' w1 ⟨rfl, rfl⟩)
      | (go_at_call 46; (with_reducible refine (HRK.out _).mono ?_); rintro e' w1 ⟨rfl, hb1⟩; have HR1 := Lib.hid (Wr.of hb1 (Nat.le_of_lt HLW.out.lt)); have HL1 := Lib.hid (HLW.out.below hb1); obtain ⟨x0, x1⟩ := HX.out w1 HR1.out; obtain ⟨y0, y1, y2, y3, y4, y5, y6⟩ := HY.out w1 HR1.out; clear hb1)
      | (go_at_call 47; (with_reducible refine (HBR.out l w1 (HE.out.wr HR1.out) HL1.out (HO.out.below (wr_low HR1.out) hg) (by have := HLEN.out; omega)).mono ?_); rintro e' w3 ⟨rfl, l3, hl3, hr3, ht3⟩; have HL3 := Lib.hid hl3; have HT3 := Lib.hid ht3; have HR3 := Lib.hid (HR1.out.trans hr3); clear hl3 hr3 ht3))
    go_end0
    refine ⟨rfl, _, HL3.out, HW.out.trans HR3.out, ?_⟩
    rw [HT.out]
    exact HT3.out
end Go.Proofs.YtgbaolafedkbdaaGreatDoor.Ep
