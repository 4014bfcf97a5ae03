import Derived.Test.YtlkmhdbmcfblkaaGreatDoorExOwns
import Derived.Lib.MinMax
import Derived.Test.YtlkmhdbmcfblkaaGreatDoorExLeafP
/- A tree is gone through by one function that is handed another one: how high it is. -/
namespace Go.Proofs.YtlkmhdbmcfblkaaGreatDoor.Ep
open Go.RowKit Go.Proofs.YtlkmhdbmcfblkaaGreatDoor.Mem Go.Proofs.YtlkmhdbmcfblkaaGreatDoor.Right
set_option linter.unusedVariables false

set_option maxHeartbeats 1000000 in
theorem seen_any (k o vk vn : Int) (vs nm : ByteArray) (A : Option Addr) (n c d m p M : Nat) (w : World) (h : Cel w p tI #[.int .i64 (m : Int)]) (hM : max m d = M) :
    Calls Tryz.prog 137 #[exV k o vk vn vs nm A n c, .int .i64 (d : Int), .pointer (some ⟨p, 0, none⟩)] w fun e w' => e = .returned (.bool true) ∧ Cel w' p tI #[.int .i64 (M : Int)] ∧ Oth p w w' := by
  have h1 := h.alloc (.cells #[.int .i64 k, .int .i64 o, .int .i64 vk, .int .i64 vn, .string vs, .string nm, .slice A n c] tE)
  have c0 : (w.alloc (.cells #[.int .i64 k, .int .i64 o, .int .i64 vk, .int .i64 vn, .string vs, .string nm, .slice A n c] 32)).cell? ⟨p, 0, none⟩ = some (.int .i64 (m : Int)) := h1.at_ 0
  have f0 : (w.alloc (.cells #[.int .i64 k, .int .i64 o, .int .i64 vk, .int .i64 vn, .string vs, .string nm, .slice A n c] 32)).frozen? ⟨p, 0, none⟩ = false := h1.open_ 0
  have hm : max (m : Int) (d : Int) = (M : Int) := by omega
  have H := Lib.hid h1
  have HL := Lib.hid h.lt
  clear h1 h hM
  go_enter Tryz.func137, Tryz.ntmps137
  go_wp2
  go_ret
  exact ⟨rfl, H.out.set 0 _, ((Oth.refl p w).alloc (Nat.le_of_lt HL.out) _).set 0 _⟩
set_option maxHeartbeats 4000000 in
theorem walkH_any (p : Nat) : ∀ (e : Ex) (cs : List Value) (d m : Nat) (w : World), ExAt w p e cs → Cel w p tI #[.int .i64 (m : Int)] → d + size e ≤ 1000000 → m ≤ 1000000 →
    Calls Tryz.prog 136 #[.agg cs.toArray, .int .i64 (d : Int), .func (.func 137) #[] #[.pointer (some ⟨p, 0, none⟩)]] w fun x w' => x = .returned (.bool true) ∧ Cel w' p tI #[.int .i64 ((max m (d + hgt e - 1) : Nat) : Int)] ∧ Oth p w w' := by
  refine Ex.byKids fun k o vk vn vs nm kids ih cs d m w h hc hs hm => ?_
  obtain ⟨A, kn, c, rfl, hkn, -, -, -, hk⟩ := ex_open h
  rw [size] at hs
  rw [hgt_mk]
  have hpw := hc.lt
  have hb0 := (Oth.refl p w).alloc (Nat.le_of_lt hpw) (.cells #[.int .i64 k, .int .i64 o, .int .i64 vk, .int .i64 vn, .string (txt vs), .string (txt nm), .slice A kn c] tE)
  have hd : d ≤ 1000000 := by omega
  obtain ⟨M, hM⟩ : ∃ M, max m d = M := ⟨_, rfl⟩
  have HV := Lib.hid (seen_any k o vk vn (txt vs) (txt nm) A kn c d m p M (w.alloc (.cells #[.int .i64 k, .int .i64 o, .int .i64 vk, .int .i64 vn, .string (txt vs), .string (txt nm), .slice A kn c] tE)) (hc.alloc _) hM)
  have hbox : Cel (w.alloc (.cells #[.int .i64 k, .int .i64 o, .int .i64 vk, .int .i64 vn, .string (txt vs), .string (txt nm), .slice A kn c] tE)) w.heap.size tE #[.int .i64 k, .int .i64 o, .int .i64 vk, .int .i64 vn, .string (txt vs), .string (txt nm), .slice A kn c] := Cel.new w tE _ rfl
  have HX := Lib.hid (fun W (hW : Oth p (w.alloc (.cells #[.int .i64 k, .int .i64 o, .int .i64 vk, .int .i64 vn, .string (txt vs), .string (txt nm), .slice A kn c] tE)) W) => (show W.cell? ⟨w.heap.size, 6, none⟩ = some (.slice A kn c) from (hW.cel (by omega) hbox).at_ 6))
  have HB0 := Lib.hid hb0
  have HK := Lib.hid hk
  have HN := Lib.hid hkn
  have HSZ := Lib.hid hs
  have HM := Lib.hid hM
  have hkm : kn ≤ 1000000 := by have := sizeL_len kids; omega
  have hM6 : M ≤ 1000000 := by omega
  clear hk h hkn hs hb0 hpw hM hc hbox
  go_enter Tryz.func136, Tryz.ntmps136
  go_wp2_with (go_at_call 137; (with_reducible refine HV.out.mono ?_); rintro e' w1 ⟨rfl, hc1, hb1⟩; have HC1 := Lib.hid hc1; have x6 := HX.out _ hb1; have HB1 := Lib.hid (HB0.out.trans hb1); clear hc1 hb1)
  clear x6
  go_loopw [17] (fun i wr => ∃ (j x : Nat), j ≤ kn ∧ i = .int .i64 (j : Int) ∧ Hid (x = max M (d + hgtL (kids.take j))) ∧ Hid (Cel wr p tI #[.int .i64 (x : Int)]) ∧ Hid (Oth p w wr)) (fun i _ => kn + 1 - (intOf i).toNat)
  case atStart => exact ⟨0, M, Nat.zero_le _, rfl, Lib.hid (by rw [List.take_zero, hgtL]; have := HM.out; omega), HC1, HB1⟩
  case round =>
    obtain ⟨j, x, hj, rfl, HL, HC, HB⟩ := hrel
    by_cases hlt : j < kn
    · obtain ⟨y, hy⟩ := kid_some (l := kids) (j := j) (by have := HN.out; omega)
      obtain ⟨k', o', vk', vn', vs', nm', ks', A', n', c', b, q, e, rfl, hb, hn', c0, c1, c2, c3, c4, c5, c6, hin⟩ := kid_at HK.out hy
      have hsy : size y ≤ sizeL kids := sizeL_mem (kid_mem hy)
      have hgy : hgtL kids ≤ sizeL kids := hgtL_size kids
      have hgt' : hgtL (kids.take j) ≤ hgtL kids := by
        have := hgtL_app (kids.take j) (kids.drop j)
        rw [List.take_append_drop] at this
        omega
      have hx6 : x ≤ 1000000 := by have := HL.out; have := HSZ.out; omega
      obtain ⟨x2, hx2⟩ : ∃ x2, max x (d + 1 + hgt y - 1) = x2 := ⟨_, rfl⟩
      have HI := Lib.hid (fun W (hW : Oth p w W) (hWc : Cel W p tI #[.int .i64 (x : Int)]) => (show Calls Tryz.prog 136 #[exV k' o' vk' vn' (txt vs') (txt nm') A' n' c', .int .i64 ((d : Int) + 1), .func (.func 137) #[] #[.pointer (some ⟨p, 0, none⟩)]] W fun x w' => x = .returned (.bool true) ∧ Cel w' p tI #[.int .i64 (x2 : Int)] ∧ Oth p W w' from by
        rw [← hx2]
        exact ih y (kid_mem hy) _ (d + 1) x W (ExAt.below hin hW.1) hWc (by have := HSZ.out; omega) hx6))
      have HT := Lib.hid (show x2 = max M (d + hgtL (kids.take (j + 1))) by rw [List.take_add_one, hy, ← hx2, HL.out]; have := hgtL_snoc (kids.take j) y; have := hgt_pos y; simp only [Option.toList_some]; omega)
      have c0 := (HB.out.1.cell hb).trans c0
      have c1 := (HB.out.1.cell hb).trans c1
      have c2 := (HB.out.1.cell hb).trans c2
      have c3 := (HB.out.1.cell hb).trans c3
      have c4 := (HB.out.1.cell hb).trans c4
      have c5 := (HB.out.1.cell hb).trans c5
      have c6 := (HB.out.1.cell hb).trans c6
      have hpr := HC.out.lt
      have HBk := Lib.hid (HB.out.alloc (Nat.le_of_lt hpr) (.cells #[.int .i64 k', .int .i64 o', .int .i64 vk', .int .i64 vn', .string (txt vs'), .string (txt nm'), .slice A' n' c'] tE))
      have HCk := Lib.hid (HC.out.alloc (.cells #[.int .i64 k', .int .i64 o', .int .i64 vk', .int .i64 vn', .string (txt vs'), .string (txt nm'), .slice A' n' c'] tE))
      have tl : decide ((j : Int) < (kn : Int)) = true := decide_eq_true (by omega)
      clear hin hn' e hy hx2 hsy hgy hgt' hpr
      go_wp2_with (go_at_call 136; (with_reducible refine (HI.out _ HBk.out HCk.out).mono ?_); rintro e' w2 ⟨rfl, hc2, hb2⟩; have HC2 := Lib.hid hc2; have HB2 := Lib.hid (HBk.out.trans hb2); clear hc2 hb2)
      go_roundw
      case rel => exact ⟨j + 1, x2, by omega, by go_num, HT, HC2, HB2⟩
      case measure => simp [intOf]; omega
    · have tl : decide ((j : Int) < (kn : Int)) = false := decide_eq_false (by omega)
      have hd2 : kids.take j = kids := List.take_of_length_le (by have := HN.out; omega)
      rw [hd2] at HL
      have hx3 := Lib.hid (show max m (d + (hgtL kids + 1) - 1) = x by have := HL.out; have := HM.out; omega)
      go_wp2
      go_ret
      exact ⟨rfl, by rw [hx3.out]; exact HC.out, HB.out⟩
end Go.Proofs.YtlkmhdbmcfblkaaGreatDoor.Ep
/- How high a tree is (Height): the program's answer. -/
namespace Go.Proofs.YtlkmhdbmcfblkaaGreatDoor.Ep
open Go.RowKit Go.Proofs.YtlkmhdbmcfblkaaGreatDoor.Mem Go.Proofs.YtlkmhdbmcfblkaaGreatDoor.Right
set_option linter.unusedVariables false

set_option maxHeartbeats 2000000 in
theorem height_any (e : Ex) (cs : List Value) (w : World) (h : ExAt w w.heap.size e cs) (hz : size e ≤ 100000) :
    Calls Tryz.prog 106 #[.agg cs.toArray] w fun x w' => x = .returned (.int .i64 (hgt e : Int)) ∧ Below w.heap.size w w' := by
  have hcs := h
  obtain ⟨k, o, vk, vn, vs, nm, kids⟩ := e
  obtain ⟨A, kn, c, rfl, -⟩ := ex_open h
  obtain ⟨e, he⟩ : ∃ e, Ex.mk k o vk vn vs nm kids = e := ⟨_, rfl⟩
  rw [he] at hcs hz ⊢
  clear he h
  have hb : Below w.heap.size w ((w.alloc (.cells #[.int .i64 k, .int .i64 o, .int .i64 vk, .int .i64 vn, .string (txt vs), .string (txt nm), .slice A kn c] tE)).alloc (.cells #[.int .i64 0] tI)) := al (al (Below.refl _ _) _) _
  have hp : Cel ((w.alloc (.cells #[.int .i64 k, .int .i64 o, .int .i64 vk, .int .i64 vn, .string (txt vs), .string (txt nm), .slice A kn c] tE)).alloc (.cells #[.int .i64 0] tI)) (w.heap.size + 1) tI #[.int .i64 ((0 : Nat) : Int)] := Cel.new _ tI _ (by simp)
  have hx := walkH_any (w.heap.size + 1) e _ 1 0 _ (ExIn.to (fun b hb' => by omega) (fun q hq' => hb.cell hq') e _ hcs) hp (by omega) (by omega)
  rw [show max 0 (1 + hgt e - 1) = hgt e by omega] at hx
  rw [show ((1 : Nat) : Int) = 1 from rfl] at hx
  have HX := Lib.hid hx
  have HB := Lib.hid hb
  clear hcs hb hp hx hz
  go_enter Tryz.func106, Tryz.ntmps106
  go_wp2_with (go_at_call 136; (with_reducible refine HX.out.mono ?_); rintro e' w2 ⟨rfl, hc2, hb2⟩; have z0 := hc2.at_ 0; have HB2 := Lib.hid (HB.out.trans (hb2.1.mono (by omega))); clear hc2 hb2)
  go_ret
  exact ⟨rfl, HB2.out⟩
end Go.Proofs.YtlkmhdbmcfblkaaGreatDoor.Ep
/- The program's parser lays a tree on its pile in the place of its kids: what its parts leave. -/
namespace Go.Proofs.YtlkmhdbmcfblkaaGreatDoor.Ep
open Go.RowKit Go.Proofs.YtlkmhdbmcfblkaaGreatDoor.Mem Go.Proofs.YtlkmhdbmcfblkaaGreatDoor.Right Go.Proofs.YtlkmhdbmcfblkaaGreatDoor.Lx Go.Deep
set_option linter.unusedVariables false

/-- The copy is the kids of a tree. -/
theorem Copy.kids {S : Nat → Prop} {n0 : Nat} {w : World} {v : Value} {ks : List Ex} (h : Copy S n0 w v ks) (h0 : ks ≠ []) : ∃ g c, v = .slice (some ⟨g, 0, none⟩) ks.length c ∧ ks.length ≤ c ∧ c ≤ maxLen ∧ n0 ≤ g ∧ g < w.heap.size ∧ KidsIn w (fun b => S b ∨ b = g) (some ⟨g, 0, none⟩) 0 ks := by
  obtain ⟨A, c, g, rfl, h1, h2, h3, h4⟩ := h
  obtain ⟨rfl, h5, ⟨cur, h6, _⟩, h7⟩ := h4 h0
  refine ⟨g, c, rfl, h1, h2, h5, h6.lt, KidsIn.of fun j y hy => ?_⟩
  obtain ⟨ds, e1, e2, e3⟩ := h7 j y hy
  exact ⟨g, 0, ds, rfl, .inr rfl, e1, fun i u hu => by rw [show 0 + (0 + j) * 7 + i = j * 7 + i by omega]; exact e2 i u hu, e3.more fun b hb => .inl hb⟩
/-- A tree is made, in block e; the pile stands yet. -/
structure Treed (w W : World) (B p n c g e : Nat) (tk : Value) (l : List Ex) (d : Bool) (S : Nat → Prop) (T : Ex) (cs : List Value) : Prop where
  z : Cel W B tPs #[tk, .int .i64 (p : Int), .slice (some ⟨g, 0, none⟩) n c, .bool d]
  x : Cel W e tE cs.toArray
  own : OwnT W (B + 1) tE S (.slice (some ⟨g, 0, none⟩) n c) l
  tree : ExIn W S T cs
  far : ∀ b, S b → B < b ∧ b < W.heap.size ∧ b ≠ g ∧ b ≠ e
  le : Below B w W
  be : B < e ∧ e ≠ g
section
variable {w W W' : World} {B p n c g e : Nat} {tk : Value} {l : List Ex} {d : Bool} {S : Nat → Prop} {T : Ex} {cs : List Value}
theorem Treed.below (h : Treed w W B p n c g e tk l d S T cs) (hb : Below W.heap.size W W') : Treed w W' B p n c g e tk l d S T cs :=
  ⟨h.z.below hb, h.x.below hb, h.own.kept (row := none) (grown_below hb) (by cases h : (Value.slice (some ⟨g, 0, none⟩) n c).ownBlock <;> simp) fun b hb' => ⟨(h.far b hb').2.1, by simp⟩,
    ExIn.to (fun _ h => h) (fun q hq => hb.cell (h.far _ hq).2.1) _ _ h.tree, fun b hb' => ⟨(h.far b hb').1, Nat.lt_of_lt_of_le (h.far b hb').2.1 hb.size, (h.far b hb').2.2⟩, h.le.trans (hb.mono (Nat.le_of_lt h.z.lt)), h.be⟩
/-- Something is let go. -/
theorem Treed.deep (h : Treed w W B p n c g e tk l d S T cs) : Treed w (W.setCell ⟨B, 3, none⟩ (.bool true)) B p n c g e tk l true S T cs := by
  have hS : ∀ b, S b → b < W.heap.size ∧ some b ≠ some B := fun b hb => ⟨(h.far b hb).2.1, fun e => by injection e with e; have := (h.far b hb).1; omega⟩
  have hbg : g ≠ B := by have := (h.own.lt g rfl).1; omega
  refine ⟨Cel.set h.z 3 _, Cel.other h.x (by have := h.be.1; omega) _ _, h.own.kept (row := some B) grown_cell (.inr fun e => by injection e with e; exact hbg e) hS, ExIn.to (fun _ h => h) (fun q hq => World.cell?_of_block (grown_cell.block _ (hS _ hq).1 (hS _ hq).2)) _ _ h.tree, fun b hb => ⟨(h.far b hb).1, ?_, (h.far b hb).2.2⟩, Below.setCell (p := ⟨B, 3, none⟩) h.le (Nat.le_refl _) _, h.be⟩
  have := (h.far b hb).2.1
  simpa using this
/-- Nothing is left of the tree. -/
theorem Treed.zero (h : Treed w W B p n c g e tk l d S T cs) (hl : cs.length = 7) : Treed w (put7 W e 0 (.int .i64 0) (.int .i64 0) (.int .i64 0) (.int .i64 0) (.string ⟨#[]⟩) (.string ⟨#[]⟩) (.slice none 0 0)) B p n c g e tk l d S exZ zC := by
  have hbe := h.be
  have hfar : ∀ q : Addr, S q.block → (put7 W e 0 (.int .i64 0) (.int .i64 0) (.int .i64 0) (.int .i64 0) (.string ⟨#[]⟩) (.string ⟨#[]⟩) (.slice none 0 0)).cell? q = W.cell? q := fun q hq => World.cell?_of_block (put7_oth (h.far _ hq).2.2.2)
  have hgr : W.grownBy (put7 W e 0 (.int .i64 0) (.int .i64 0) (.int .i64 0) (.int .i64 0) (.string ⟨#[]⟩) (.string ⟨#[]⟩) (.slice none 0 0)) (some e) := by
    have hp := put7_below (q := 0) (v0 := .int .i64 0) (v1 := .int .i64 0) (v2 := .int .i64 0) (v3 := .int .i64 0) (v4 := .string ⟨#[]⟩) (v5 := .string ⟨#[]⟩) (v6 := .slice none 0 0) (Below.refl e W) (Nat.le_refl _)
    exact ⟨hp.os, hp.tape, hp.output, hp.size, fun k hk hr => put7_oth fun e' => hr (by rw [e'])⟩
  refine ⟨Cel.put_other h.z (by omega), ?_, h.own.kept hgr (.inr fun e' => h.be.2 (Option.some.inj e').symm) fun b hb => ⟨(h.far b hb).2.1, fun e' => (h.far b hb).2.2.2 (by injection e')⟩, zC_in _ _, fun b hb => ⟨(h.far b hb).1, by rw [put7_size]; exact (h.far b hb).2.1, (h.far b hb).2.2⟩, put7_below h.le (by omega), h.be⟩
  match cs, hl, h.x with
  | [a0, a1, a2, a3, a4, a5, a6], _, hx =>
    have := ((((((Cel.set hx 0 (.int .i64 0)).set (0 + 1) (.int .i64 0)).set (0 + 2) (.int .i64 0)).set (0 + 3) (.int .i64 0)).set (0 + 4) (.string ⟨#[]⟩)).set (0 + 5) (.string ⟨#[]⟩)).set (0 + 6) (.slice none 0 0)
    simp only [Nat.zero_add, List.setIfInBounds_toArray, List.set_cons_zero, List.set_cons_succ] at this
    exact this
end
section
variable {w w1 : World} {B p m n kn c g : Nat} {tk : Value} {l ks : List Ex} {d : Bool} {S : Nat → Prop} {k o vk vn : Int} {vs nm : List UInt8} {v : Value}
/-- Behind the copy of its kids. -/
theorem mid_of (hz : Cel w B tPs #[tk, .int .i64 (p : Int), .slice (some ⟨g, 0, none⟩) n c, .bool d]) (hown : OwnT w (B + 1) tE S (.slice (some ⟨g, 0, none⟩) n c) (l ++ ks)) (hS : ∀ b, S b → B < b ∧ b < w.heap.size ∧ some b ≠ (Value.slice (some ⟨g, 0, none⟩) n c).ownBlock)
    (hk : ks.length = kn) (h0 : 0 < kn) (hc : Copy S (w.alloc (.cells #[.int .i64 k, .int .i64 o, .int .i64 vk, .int .i64 vn, .string (Ep.txt vs), .string (Ep.txt nm), .slice none 0 0] tE)).heap.size w1 v ks) (hb : Below (w.alloc (.cells #[.int .i64 k, .int .i64 o, .int .i64 vk, .int .i64 vn, .string (Ep.txt vs), .string (Ep.txt nm), .slice none 0 0] tE)).heap.size (w.alloc (.cells #[.int .i64 k, .int .i64 o, .int .i64 vk, .int .i64 vn, .string (Ep.txt vs), .string (Ep.txt nm), .slice none 0 0] tE)) w1) :
    ∃ g2 c2, v = .slice (some ⟨g2, 0, none⟩) kn c2 ∧ w1.cell? ⟨w.heap.size, 6, none⟩ = some (.slice none 0 0) ∧ w1.frozen? ⟨w.heap.size, 6, none⟩ = false ∧
      Treed w (w1.setCell ⟨w.heap.size, 6, none⟩ (.slice (some ⟨g2, 0, none⟩) kn c2)) B p n c g w.heap.size tk (l ++ ks) d (fun b => S b ∨ b = g2) (.mk k o vk vn vs nm ks) [.int .i64 k, .int .i64 o, .int .i64 vk, .int .i64 vn, .string (Ep.txt vs), .string (Ep.txt nm), .slice (some ⟨g2, 0, none⟩) kn c2] := by
  obtain ⟨g2, c2, rfl, h1, h2, h3, h4, h5⟩ := hc.kids (fun e => by rw [e] at hk; simp at hk; omega)
  subst hk
  have hsz : (w.alloc (.cells #[.int .i64 k, .int .i64 o, .int .i64 vk, .int .i64 vn, .string (Ep.txt vs), .string (Ep.txt nm), .slice none 0 0] tE)).heap.size = w.heap.size + 1 := by simp
  have hbw : Below w.heap.size w w1 := (al (Below.refl _ _) (.cells #[.int .i64 k, .int .i64 o, .int .i64 vk, .int .i64 vn, .string (Ep.txt vs), .string (Ep.txt nm), .slice none 0 0] tE)).trans (hb.mono (by omega))
  have hB := hz.lt
  have hx : Cel w1 w.heap.size tE #[.int .i64 k, .int .i64 o, .int .i64 vk, .int .i64 vn, .string (Ep.txt vs), .string (Ep.txt nm), .slice none 0 0] := (Cel.new w tE _ rfl).below hb
  have hg := hown.lt g rfl
  have hS2 : ∀ b, (S b ∨ b = g2) → B < b ∧ b < w1.heap.size ∧ b ≠ g ∧ b ≠ w.heap.size := fun b hb' => by
    rcases hb' with hb' | rfl
    · have h6 := hS b hb'
      have h7 := hbw.size
      exact ⟨h6.1, by omega, fun e => h6.2.2 (by rw [e]; rfl), by omega⟩
    · omega
  have hgr : w1.grownBy (w1.setCell ⟨w.heap.size, 6, none⟩ (.slice (some ⟨g2, 0, none⟩) ks.length c2)) (some w.heap.size) := grown_set _
  have hS3 : ∀ b, (S b ∨ b = g2) → b < w1.heap.size ∧ some b ≠ some w.heap.size := fun b hb' => ⟨(hS2 b hb').2.1, fun e => (hS2 b hb').2.2.2 (by injection e)⟩
  refine ⟨g2, c2, rfl, hx.at_ 6, hx.open_ 6, Cel.other (hz.below hbw) (by omega) _ _, Cel.set hx 6 _, ?_, ?_, fun b hb' => ⟨(hS2 b hb').1, ?_, (hS2 b hb').2.2⟩, ?_, by omega, by omega⟩
  · have h6 : OwnT w1 (B + 1) tE S (.slice (some ⟨g, 0, none⟩) n c) (l ++ ks) := hown.kept (row := none) (grown_below hbw) (Classical.em _) fun b hb' => ⟨(hS b hb').2.1, by simp⟩
    exact (h6.more fun b hb' => .inl hb').kept hgr (.inr fun e => by have h7 : g = w.heap.size := Option.some.inj e; have := hg.2; omega) hS3
  · refine (exIn_mk _ _ _ _ _ _ _ _ _ _).2 ⟨some ⟨g2, 0, none⟩, c2, rfl, h1, h2, (fun e => by cases e), ?_⟩
    exact KidsIn.to (fun _ h => h) (fun q hq => World.cell?_of_block (hgr.block _ (hS3 _ hq).1 (hS3 _ hq).2)) h5
  · have := (hS2 b hb').2.1
    simpa using this
  · exact Below.setCell (p := ⟨w.heap.size, 6, none⟩) (hbw.mono (Nat.le_of_lt hB)) (Nat.le_of_lt hB) _
/-- The pile is laid back into its cell. -/
theorem lay_pile {u : Value} (hz : Cel w B tPs #[tk, .int .i64 (p : Int), u, .bool d]) (ho : OwnT w (B + 1) tE S (.slice (some ⟨g, 0, none⟩) n c) l) (hS : ∀ b, S b → B < b ∧ b < w.heap.size ∧ b ≠ g) : Ps (w.setCell ⟨B, 2, none⟩ (.slice (some ⟨g, 0, none⟩) n c)) B tk p l d := by
  have hg := ho.lt g rfl
  refine ⟨.slice (some ⟨g, 0, none⟩) n c, Cel.set hz 2 _, S, ho.kept (row := some B) grown_cell (.inr fun e => by have h7 : g = B := Option.some.inj e; omega) fun b hb => ⟨(hS b hb).2.1, fun e => by injection e with e; have := (hS b hb).1; omega⟩, fun b hb => ⟨(hS b hb).1, ?_, fun e => (hS b hb).2.2 (Option.some.inj e)⟩⟩
  have := (hS b hb).2.1
  simpa using this
end
end Go.Proofs.YtlkmhdbmcfblkaaGreatDoor.Ep
