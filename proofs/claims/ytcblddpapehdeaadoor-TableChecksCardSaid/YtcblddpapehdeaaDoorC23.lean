/- The lists of columns that constraints and indexes have, and what expressions name: the pro The lists of columns that constraints and indexes have, and what expressions name: the pro -/
import Derived.Test.YtcblddpapehdeaaDoorC21
namespace Go.Proofs.YtcblddpapehdeaaDoor.Tk
open Go.RowKit Go.Proofs.YtcblddpapehdeaaDoor.Mem Go.Proofs.YtcblddpapehdeaaDoor.Ep Go.Proofs.YtcblddpapehdeaaDoor.Sm Go.ChangeShapes Go.WideShapes
set_option linter.unusedVariables false
/-- A list of texts that lies elsewhere: it is older, or of texts alone. -/
def RowQ (B : Nat) (w : World) (P : Option Addr) (us : List Value) : Prop := ∀ k u, us[k]? = some u → ∃ b o, P = some ⟨b, o, none⟩ ∧ (b < B ∨ ∃ cs, w.heap[b]? = some (.cells cs tS (0, 0))) ∧ b < w.heap.size ∧ w.cell? ⟨b, o + k, none⟩ = some u
section
variable {V w w' : World} {B : Nat} {P : Option Addr} {us : List Value}
theorem own_blk {s n : Nat} {e : TypeId} {v : Value} {xs : List Value} (h : w.ownsRow B e s v n xs) {k : Nat} (hk : v.ownBlock = some k) : ∃ cs, w.heap[k]? = some (.cells cs e (0, 0)) := by
  rcases h.2 with ⟨rfl, _⟩ | ⟨g, cap, cur, rfl, _, hb, _⟩
  · simp [Value.ownBlock] at hk
  · obtain rfl : g = k := by simpa [Value.ownBlock] using hk
    exact ⟨cur, hb⟩
theorem RowQ.below (h : RowQ B w P us) (hb : Below w.heap.size w w') : RowQ B w' P us := fun k u hu => by
  obtain ⟨b, o, h1, h2, h3, h4⟩ := h k u hu
  exact ⟨b, o, h1, h2.imp id (fun ⟨cs, g⟩ => ⟨cs, (hb.block b h3).trans g⟩), Nat.lt_of_lt_of_le h3 hb.size, (hb.cell (p := ⟨b, o + k, none⟩) h3).trans h4⟩
theorem RowQ.old (h : Row V B P us) (hB : B ≤ V.heap.size) (hb : Below V.heap.size V w) : RowQ B w P us := fun k u hu => by
  obtain ⟨b, o, h1, h2, h3⟩ := h k u hu
  exact ⟨b, o, h1, .inl h2, Nat.lt_of_lt_of_le (Nat.lt_of_lt_of_le h2 hB) hb.size, (hb.cell (p := ⟨b, o + k, none⟩) (Nat.lt_of_lt_of_le h2 hB)).trans h3⟩
theorem RowQ.new {L : List Bs} {n c : Nat} {X : World} (h : TS X (.slice P n c) L w) : RowQ B w P (L.map str) := fun k u hu => by
  obtain ⟨b, o, h1, h2, h3⟩ := h.row k u hu
  obtain ⟨cs, hcs⟩ := own_blk h.own (k := b) (by
    rcases h.own.2 with ⟨hv, h0⟩ | ⟨g, cap, cur, hv, _⟩
    · injection hv with e1 _ _
      rw [h1] at e1
      cases e1
    · rw [hv]
      injection hv with e1 _ _
      rw [h1] at e1
      injection e1 with e1
      injection e1 with e1 _
      rw [e1]; rfl)
  exact ⟨b, o, h1, .inr ⟨cs, hcs⟩, h2, h3⟩
theorem RowQ.row (h : RowQ B w P us) : Row w w.heap.size P us := fun k u hu => by
  obtain ⟨b, o, h1, h2, h3, h4⟩ := h k u hu
  exact ⟨b, o, h1, h3, h4⟩
theorem RowQ.grown {v : Value} {n : Nat} {xs : List Value} (h : RowQ B w P us) (hB : B ≤ V.heap.size) (hv : w.ownsRow V.heap.size tSl 1 v n xs) (hg : w.grownBy w' v.ownBlock) : RowQ B w' P us := fun k u hu => by
  obtain ⟨b, o, h1, h2, h3, h4⟩ := h k u hu
  have hne : some b ≠ v.ownBlock := fun e => by
    rcases h2 with h2 | ⟨cs, h2⟩
    · have := (hv.lt b e.symm).1; omega
    · obtain ⟨cs', h5⟩ := own_blk hv e.symm
      rw [h2] at h5
      injection h5 with h5
      injection h5 with _ h6
      exact absurd h6 (by decide)
  have hb := hg.block b h3 hne
  exact ⟨b, o, h1, h2.imp id (fun ⟨cs, g⟩ => ⟨cs, hb.trans g⟩), Nat.lt_of_lt_of_le h3 hg.size, (World.cell?_of_block (a := ⟨b, o + k, none⟩) hb).trans h4⟩
end
/-- A list of lists that a call has gathered. -/
structure TNd (B : Nat) (w : World) (us : List Value) (parts : List (List Bs)) : Prop where
  len : us.length = parts.length
  at_ : ∀ (k : Nat) (u : Value) (l : List Bs), us[k]? = some u → parts[k]? = some l → ∃ P c, u = .slice P l.length c ∧ (P = none → c = 0) ∧ RowQ B w P (l.map str)
structure TN (B : Nat) (V : World) (v : Value) (parts : List (List Bs)) (w : World) : Prop where
  hB : B ≤ V.heap.size
  ex : ∃ us, w.ownsRow V.heap.size tSl 1 v parts.length us ∧ TNd B w us parts
  low : Below V.heap.size V w
section
variable {B : Nat} {V w w' : World} {v : Value} {parts : List (List Bs)}
noncomputable def TN.us (h : TN B V v parts w) : List Value := h.ex.choose
theorem TN.own (h : TN B V v parts w) : w.ownsRow V.heap.size tSl 1 v parts.length h.us := h.ex.choose_spec.1
theorem TN.dat (h : TN B V v parts w) : TNd B w h.us parts := h.ex.choose_spec.2
theorem tn_none (hB : B ≤ V.heap.size) (h : Below V.heap.size V w) : TN B V (.slice none 0 0) [] w := ⟨hB, ⟨[], ⟨rfl, .inl ⟨rfl, rfl⟩⟩, rfl, fun k u l h => by simp at h⟩, h⟩
theorem TN.call (h : TN B V v parts w) (hb : Below w.heap.size w w') : TN B V v parts w' :=
  ⟨h.hB, ⟨h.us, h.own.kept (grown_below (r := none) hb) (by cases hv : v.ownBlock with | none => exact .inl rfl | some k => exact .inr (by simp)), h.dat.len, fun k u l hu hl => by
    obtain ⟨P, c, h1, h2, h3⟩ := h.dat.at_ k u l hu hl
    exact ⟨P, c, h1, h2, h3.below hb⟩⟩, h.low.trans (hb.mono h.low.size)⟩
theorem TN.more {v' : Value} {l : List Bs} {P : Option Addr} {n c : Nat} {o : Obj} (h : TN B V v parts w) (hl : n = l.length) (hP : P = none → c = 0) (hr : RowQ B w P (l.map str)) (g1 : w'.ownsRow V.heap.size tSl 1 v' (parts.length + 1) (h.us ++ [.slice P n c])) (g2 : (w.alloc o).grownBy w' v.ownBlock) : TN B V v' (parts ++ [l]) w' := by
  have ha := al (Below.refl w.heap.size w) o
  have hown := h.own.alloc o
  have hb1 := al h.low o
  refine ⟨h.hB, ⟨h.us ++ [.slice P n c], by rw [List.length_append]; exact g1, by rw [List.length_append, List.length_append, h.dat.len]; rfl, fun k u m hu hm => ?_⟩, hb1.trans ⟨g2.os, g2.tape, g2.output, g2.size, fun j hj => g2.block j (by have := hb1.size; omega) (fun e => by have := (h.own.lt j e.symm).1; omega)⟩⟩
  by_cases hk : k < parts.length
  · rw [List.getElem?_append_left (by rw [h.dat.len]; exact hk)] at hu
    rw [List.getElem?_append_left hk] at hm
    obtain ⟨P, c, h1, h2, h3⟩ := h.dat.at_ k u m hu hm
    exact ⟨P, c, h1, h2, (h3.below ha).grown h.hB hown g2⟩
  · have hk2 : k = parts.length := by
      have := (List.getElem?_eq_some_iff.1 hm).1
      rw [List.length_append] at this
      simp at this
      omega
    subst hk2
    rw [← h.dat.len, List.getElem?_concat_length] at hu
    rw [List.getElem?_concat_length] at hm
    cases hu
    cases hm
    exact ⟨P, c, by rw [hl], hP, (hr.below ha).grown h.hB hown g2⟩
theorem TN.own_n {n : Nat} (h : TN B V v parts w) (e : parts.length = n) : w.ownsRow V.heap.size tSl 1 v n h.us := e ▸ h.own
theorem TN.more_n {v' : Value} {l : List Bs} {P : Option Addr} {m n c : Nat} {o : Obj} (h : TN B V v parts w) (e : parts.length = m) (hl : n = l.length) (hP : P = none → c = 0) (hr : RowQ B w P (l.map str)) (g1 : w'.ownsRow V.heap.size tSl 1 v' (m + 1) (h.us ++ [.slice P n c])) (g2 : (w.alloc o).grownBy w' v.ownBlock) : TN B V v' (parts ++ [l]) w' := h.more hl hP hr (by rw [e]; exact g1) g2
theorem TN.rows (h : TN B V v parts w) : ∃ A c, v = .slice A parts.length c ∧ RowR w w.heap.size A parts := by
  have ho := h.own
  obtain ⟨A, c, rfl⟩ : ∃ A c, v = .slice A parts.length c := by
    rcases ho.2 with ⟨hv, h0⟩ | ⟨g, cap, cur, hv, _⟩
    · exact ⟨none, 0, by rw [hv, h0]⟩
    · exact ⟨_, _, hv⟩
  refine ⟨A, c, rfl, fun j l hl => ?_⟩
  have hj := (List.getElem?_eq_some_iff.1 hl).1
  have hu : h.us[j]? = some (h.us[j]'(by rw [h.dat.len]; exact hj)) := List.getElem?_eq_getElem _
  obtain ⟨P, d, hp, hP, hr⟩ := h.dat.at_ j _ l hu hl
  rw [hp] at hu
  obtain ⟨b, o, g1, g2, g3⟩ := Row.own ho j _ hu
  exact ⟨b, o, P, d, g1, g2, g3, hP, hr.row⟩
theorem TN.more_box {o : Obj} {k : Nat} {t : TypeId} {cs : Array Value} (h : TN B V v parts w) (hc : Cel w k t cs) (ht : t ≠ tSl) (g2 : (w.alloc o).grownBy w' v.ownBlock) : Cel w' k t cs := by
  refine cel_grown (hc.alloc o) g2 fun e => ?_
  obtain ⟨cs', h5⟩ := own_blk h.own e.symm
  have := hc.symm.trans h5
  injection this with e2
  injection e2 with _ e3
  exact ht e3
end
/-- What uses leaves. -/
def UseD (parts : List (List Bs)) (w : World) (e : Ending) (w' : World) : Prop := ∃ A c, e = .returned (.slice A parts.length c) ∧ TN w.heap.size w (.slice A parts.length c) parts w'
theorem UseD.of {V w w' : World} {parts : List (List Bs)} {v : Value} (h : TN w.heap.size V v parts w') (hb : Below w.heap.size w V) : UseD parts w (.returned v) w' := by
  obtain ⟨A, c, rfl, -⟩ := h.rows
  exact ⟨A, c, rfl, Nat.le_refl _, ⟨h.us, own_less h.own hb.size, h.dat⟩, hb.trans (h.low.mono hb.size)⟩
def useC (c : Cn) : List (List Bs) := c.cols :: (if c.kind = 2 then [namesE c.chk] else [])
def usesL (x : Tb) : List (List Bs) := x.cons.flatMap useC ++ x.idx.map (·.2)
end Go.Proofs.YtcblddpapehdeaaDoor.Tk
namespace Go.Proofs.YtcblddpapehdeaaDoor.Tk
open Go.RowKit Go.Proofs.YtcblddpapehdeaaDoor.Mem Go.Proofs.YtcblddpapehdeaaDoor.Ep Go.Proofs.YtcblddpapehdeaaDoor.Sm Go.ChangeShapes Go.WideShapes
set_option linter.unusedVariables false
theorem use_on {l : List Cn} {j : Nat} {c : Cn} (h : l[j]? = some c) : (l.take (j + 1)).flatMap useC = (l.take j).flatMap useC ++ useC c := take_flat_on h
theorem use_len : ∀ l : List Cn, (l.flatMap useC).length ≤ 2 * l.length
  | [] => by simp
  | c :: l => by
    have h := use_len l
    rw [List.flatMap_cons, List.length_append, List.length_cons]
    have h2 : (useC c).length ≤ 2 := by unfold useC; split <;> simp
    omega
theorem TN.to {B : Nat} {V w : World} {v : Value} {p q : List (List Bs)} (h : TN B V v p w) (e : p = q) : TN B V v q w := e ▸ h
set_option maxRecDepth 20000 in
set_option maxHeartbeats 4000000 in
theorem uses_any (x : Tb) (f : Fb) (w : World) (hx : FbIn w w.heap.size f x) (h4 : f.n4 ≤ 10000) (h5 : f.n5 ≤ 10000) (hz : ∀ c ∈ x.cons, c.kind = 2 → Lim c.chk ∧ size c.chk ≤ 1000) : Calls Tryd.prog 55 #[.agg #[.string (txt x.nm), .string (txt x.own), .int .i64 x.ver, .slice f.A3 f.n3 f.a3, .slice f.A4 f.n4 f.a4, .slice f.A5 f.n5 f.a5]] w (UseD (usesL x) w) := by
  obtain ⟨V, hV⟩ : ∃ W1, w.alloc (.cells #[.string (txt x.nm), .string (txt x.own), .int .i64 x.ver, .slice f.A3 f.n3 f.a3, .slice f.A4 f.n4 f.a4, .slice f.A5 f.n5 f.a5] tTb) = W1 := ⟨_, rfl⟩
  have hb : Below w.heap.size w V := by rw [← hV]; exact al (Below.refl _ _) _
  have HX := Lib.hid (show Tbx V w.heap.size f x from by rw [← hV]; exact tbx_new hx)
  have HI := Lib.hid (hx.below hb)
  have HB := Lib.hid hb
  have HN4 := Lib.hid hx.n4
  have HN5 := Lib.hid hx.n5
  have HZ := Lib.hid hz
  clear hx hb hz
  have y4 : V.cell? ⟨w.heap.size, 4, none⟩ = some (.slice f.A4 f.n4 f.a4) := HX.out.at_ (Below.refl _ _) 4
  go_enter Tryd.func55, Tryd.ntmps55
  go_wp2
  clear y4 hV
  go_loopw [11, 3] (fun i u wr => ∃ (j : Nat) (v : Value), j ≤ f.n4 ∧ i = .int .i64 (j : Int) ∧ v = u ∧ Hid (TN w.heap.size V v ((x.cons.take j).flatMap useC) wr)) (fun i _ _ => f.n4 + 1 - (intOf i).toNat)
  case atStart => exact ⟨0, _, Nat.zero_le _, rfl, rfl, Lib.hid (by simpa using tn_none HB.out.size (Below.refl _ _))⟩
  case round =>
    obtain ⟨j, v, hj, rfl, rfl, HE1⟩ := hrel
    have hmx : f.n4 ≤ 2 ^ 63 - 1 := by omega
    have hlo := HE1.out.low
    by_cases hlt : j < f.n4
    · --<
      obtain ⟨c, hc⟩ := some_at HN4.out.symm hlt
      have tl : decide ((j : Int) < (f.n4 : Int)) = true := decide_eq_true (by omega)
      have tl2 : decide (j < f.n4) = true := decide_eq_true hlt
      obtain ⟨b1, o1, P, pn, pc, k0, o0, vk, vn, vs, ns, A0, m0, c0, Q, qn, qc, hA, hb1, hp, i1, i2, -⟩ := cn_at HI.out.cons.2.2.2 hc
      have hb2 : b1 < V.heap.size := Nat.lt_of_lt_of_le hb1 HB.out.size
      rw [hA]
      have p0 : wr.cell? ⟨b1, o1 + j * 12, none⟩ = some (.string (txt c.nm)) := (hlo.cell (p := ⟨b1, o1 + j * 12, none⟩) hb2).trans (hp 0 _ rfl)
      have p1 : wr.cell? ⟨b1, o1 + j * 12 + 1, none⟩ = some (.int .i64 c.kind) := (hlo.cell (p := ⟨b1, o1 + j * 12 + 1, none⟩) hb2).trans (hp 1 _ rfl)
      have p2 : wr.cell? ⟨b1, o1 + j * 12 + 2, none⟩ = some (.slice P pn pc) := (hlo.cell (p := ⟨b1, o1 + j * 12 + 2, none⟩) hb2).trans (hp 2 _ rfl)
      have p3 : wr.cell? ⟨b1, o1 + j * 12 + 3, none⟩ = some (.int .i64 k0) := (hlo.cell (p := ⟨b1, o1 + j * 12 + 3, none⟩) hb2).trans (hp 3 _ rfl)
      have p4 : wr.cell? ⟨b1, o1 + j * 12 + 4, none⟩ = some (.int .i64 o0) := (hlo.cell (p := ⟨b1, o1 + j * 12 + 4, none⟩) hb2).trans (hp 4 _ rfl)
      have p5 : wr.cell? ⟨b1, o1 + j * 12 + 5, none⟩ = some (.int .i64 vk) := (hlo.cell (p := ⟨b1, o1 + j * 12 + 5, none⟩) hb2).trans (hp 5 _ rfl)
      have p6 : wr.cell? ⟨b1, o1 + j * 12 + 6, none⟩ = some (.int .i64 vn) := (hlo.cell (p := ⟨b1, o1 + j * 12 + 6, none⟩) hb2).trans (hp 6 _ rfl)
      have p7 : wr.cell? ⟨b1, o1 + j * 12 + 7, none⟩ = some (.string vs) := (hlo.cell (p := ⟨b1, o1 + j * 12 + 7, none⟩) hb2).trans (hp 7 _ rfl)
      have p8 : wr.cell? ⟨b1, o1 + j * 12 + 8, none⟩ = some (.string ns) := (hlo.cell (p := ⟨b1, o1 + j * 12 + 8, none⟩) hb2).trans (hp 8 _ rfl)
      have p9 : wr.cell? ⟨b1, o1 + j * 12 + 9, none⟩ = some (.slice A0 m0 c0) := (hlo.cell (p := ⟨b1, o1 + j * 12 + 9, none⟩) hb2).trans (hp 9 _ rfl)
      have p10 : wr.cell? ⟨b1, o1 + j * 12 + 10, none⟩ = some (.string (txt c.tbl)) := (hlo.cell (p := ⟨b1, o1 + j * 12 + 10, none⟩) hb2).trans (hp 10 _ rfl)
      have p11 : wr.cell? ⟨b1, o1 + j * 12 + 11, none⟩ = some (.slice Q qn qc) := (hlo.cell (p := ⟨b1, o1 + j * 12 + 11, none⟩) hb2).trans (hp 11 _ rfl)
      obtain ⟨W1, hW1⟩ : ∃ W, wr.alloc (.cells #[.string (txt c.nm), .int .i64 c.kind, .slice P pn pc, .int .i64 k0, .int .i64 o0, .int .i64 vk, .int .i64 vn, .string vs, .string ns, .slice A0 m0 c0, .string (txt c.tbl), .slice Q qn qc] 56) = W := ⟨_, rfl⟩
      have hbw : Below wr.heap.size wr W1 := by rw [← hW1]; exact al (Below.refl _ _) _
      have hcel : Cel W1 wr.heap.size 56 #[.string (txt c.nm), .int .i64 c.kind, .slice P pn pc, .int .i64 k0, .int .i64 o0, .int .i64 vk, .int .i64 vn, .string vs, .string ns, .slice A0 m0 c0, .string (txt c.tbl), .slice Q qn qc] := by rw [← hW1]; exact Cel.new _ _ _ rfl
      have q2 : W1.cell? ⟨wr.heap.size, 2, none⟩ = some (.slice P pn pc) := hcel.at_ 2
      obtain ⟨hr, hl, hP⟩ := row_str i1
      obtain ⟨L1, hL1⟩ : ∃ L1, (x.cons.take j).flatMap useC = L1 := ⟨_, rfl⟩
      have h1c := HE1.out.call hbw
      rw [hL1] at h1c
      have HT1 := Lib.hid h1c
      obtain ⟨n1, hn1⟩ : ∃ n1, L1.length = n1 := ⟨_, rfl⟩
      have HLN := Lib.hid (show L1.length = n1 ∧ n1 + 2 ≤ 100000 from by have h4 := HN4.out; have := use_len (x.cons.take j); rw [List.length_take, hL1] at this; exact ⟨hn1, by omega⟩)
      have HAP := Lib.hid (show ∀ v' w', w'.ownsRow V.heap.size tSl 1 v' (n1 + 1) (HT1.out.us ++ [.slice P pn pc]) → (W1.alloc (.cells #[.slice P pn pc] tSl)).grownBy w' v.ownBlock → TN w.heap.size V v' (L1 ++ [c.cols]) w' from fun v' w' g1 g2 => HT1.out.more_n hn1 hl.symm hP ((RowQ.old hr HB.out.size hlo).below hbw) g1 g2)
      have HBX := Lib.hid (show ∀ w', (W1.alloc (.cells #[.slice P pn pc] tSl)).grownBy w' v.ownBlock → Cel w' wr.heap.size 56 #[.string (txt c.nm), .int .i64 c.kind, .slice P pn pc, .int .i64 k0, .int .i64 o0, .int .i64 vk, .int .i64 vn, .string vs, .string ns, .slice A0 m0 c0, .string (txt c.tbl), .slice Q qn qc] from fun w' g2 => HT1.out.more_box hcel (by decide) g2)
      obtain ⟨kd, hkd⟩ : ∃ kd, c.kind = kd := ⟨_, rfl⟩
      have HKD := Lib.hid hkd
      rw [hkd] at hW1 p1 HBX
      by_cases hk : c.kind = 2
      · have HN := Lib.hid (show ∀ W, Below V.heap.size V W → Calls Tryd.prog 93 #[.agg #[.int .i64 k0, .int .i64 o0, .int .i64 vk, .int .i64 vn, .string vs, .string ns, .slice A0 m0 c0]] W (TxtD (namesE c.chk) W) from fun W g => names_any c.chk _ W (ExIn.to (fun b hb' => Nat.lt_of_lt_of_le (Nat.lt_of_lt_of_le hb' HB.out.size) g.size) (fun q hq' => g.cell (Nat.lt_of_lt_of_le hq' HB.out.size)) _ _ i2) (HZ.out c (List.mem_of_getElem? hc) hk).1 (HZ.out c (List.mem_of_getElem? hc) hk).2)
        have HSN := Lib.hid (show ∀ v' w', TN w.heap.size V v' ((L1 ++ [c.cols]) ++ [namesE c.chk]) w' → TN w.heap.size V v' ((x.cons.take (j + 1)).flatMap useC) w' from fun v' w' g => g.to (by rw [use_on hc, List.append_assoc, hL1]; unfold useC; rw [if_pos hk]; rfl))
        have hk2 : kd = 2 := by rw [← hkd]; exact hk
        subst hk2
        clear hlo hA hb1 hb2 hc hr hl hP i1 i2 hp hbw hcel hkd hk hn1 hL1 h1c HE1
        go_wp2_with (first | (at_builtin; refine wp_one (x := .slice P pn pc) elemR V.heap.size (.tmp 15) (.tmp 18) rfl rfl rfl (HT1.out.own_n HLN.out.1) rfl rfl (by have := HLN.out; omega) (by have := HLN.out; omega) HT1.out.low.size ?_; intro v2 w2 g1 g2 g3; obtain ⟨A2, a2, rfl⟩ := own_slice g1; have HR := Lib.hid (HAP.out _ _ g1 g2); have hc2 := HBX.out _ g2; have r1 := hc2.at_ 1; have r3 := hc2.at_ 3; have r4 := hc2.at_ 4; have r5 := hc2.at_ 5; have r6 := hc2.at_ 6; have r7 := hc2.at_ 7; have r8 := hc2.at_ 8; have r9 := hc2.at_ 9; clear g1 g2 g3 hc2) | (go_at_call 93; (with_reducible refine (HN.out _ HR.out.low).mono ?_); rintro e3 w3 ⟨A3, c3, rfl, ht3⟩; have HT3 := Lib.hid (HR.out.call ht3.low); have HTS := Lib.hid ht3; clear ht3) | (at_builtin; refine wp_one (x := .slice A3 (namesE c.chk).length c3) elemR V.heap.size (.tmp 23) (.tmp 27) rfl rfl rfl (HT3.out.own_n (n := n1 + 1) (by rw [List.length_append, HLN.out.1]; rfl)) rfl rfl (by have := HLN.out; omega) (by have := HLN.out; omega) HT3.out.low.size ?_; intro v4 w4 g1 g2 g3; obtain ⟨A4, a4, rfl⟩ := own_slice g1; have HR4 := Lib.hid (HSN.out _ _ (HT3.out.more_n (m := n1 + 1) (by rw [List.length_append, HLN.out.1]; rfl) rfl HTS.out.nil0 (RowQ.new HTS.out) g1 g2)); clear g1 g2 g3))
        go_roundw
        case rel => exact ⟨j + 1, _, by omega, by go_num, rfl, HR4⟩
        case measure => simp [intOf]; omega
      · have HSN := Lib.hid (show ∀ v' w', TN w.heap.size V v' (L1 ++ [c.cols]) w' → TN w.heap.size V v' ((x.cons.take (j + 1)).flatMap useC) w' from fun v' w' g => g.to (by rw [use_on hc, hL1]; unfold useC; rw [if_neg hk]))
        have hk2 : ¬ kd = 2 := by rw [← hkd]; exact hk
        clear hlo hA hb1 hb2 hc hr hl hP i1 i2 hp hbw hcel hkd hk hn1 hL1 h1c HE1
        go_wp2_with (at_builtin; refine wp_one (x := .slice P pn pc) elemR V.heap.size (.tmp 15) (.tmp 18) rfl rfl rfl (HT1.out.own_n HLN.out.1) rfl rfl (by have := HLN.out; omega) (by have := HLN.out; omega) HT1.out.low.size ?_; intro v2 w2 g1 g2 g3; obtain ⟨A2, a2, rfl⟩ := own_slice g1; have HR := Lib.hid (HSN.out _ _ (HAP.out _ _ g1 g2)); have r1 := (HBX.out _ g2).at_ 1; clear g1 g2 g3)
        go_roundw
        case rel => exact ⟨j + 1, _, by omega, by go_num, rfl, HR⟩
        case measure => simp [intOf]; omega
      -->
    · have tl : decide ((j : Int) < (f.n4 : Int)) = false := decide_eq_false (by omega)
      have tl2 : decide (j < f.n4) = false := decide_eq_false hlt
      obtain rfl : j = f.n4 := by omega
      have T4 := Lib.hid (show TN w.heap.size V v (x.cons.flatMap useC) wr from by have h1 := HE1.out; rw [HN4.out, List.take_length] at h1; exact h1)
      clear HE1 hj hlt tl tl2 hmx
      have y5 : wr.cell? ⟨w.heap.size, 5, none⟩ = some (.slice f.A5 f.n5 f.a5) := HX.out.at_ hlo 5
      go_wp2
      clear y5 hlo
      go_loopw [33, 3] (fun i u wr => ∃ (j : Nat) (v : Value), j ≤ f.n5 ∧ i = .int .i64 (j : Int) ∧ v = u ∧ Hid (TN w.heap.size V v (x.cons.flatMap useC ++ (x.idx.take j).map (·.2)) wr)) (fun i _ _ => f.n5 + 1 - (intOf i).toNat)
      case atStart => exact ⟨0, _, Nat.zero_le _, rfl, rfl, by rw [List.take_zero, List.map_nil, List.append_nil]; exact T4⟩
      case round =>
        obtain ⟨j, v, hj, rfl, rfl, HE1⟩ := hrel
        have hmx : f.n5 ≤ 2 ^ 63 - 1 := by omega
        have hlo := HE1.out.low
        by_cases hlt : j < f.n5
        · --<
          obtain ⟨c, hc⟩ := some_at HN5.out.symm hlt
          have tl : decide ((j : Int) < (f.n5 : Int)) = true := decide_eq_true (by omega)
          have tl2 : decide (j < f.n5) = true := decide_eq_true hlt
          obtain ⟨b1, o1, P, pn, pc, hA, hb1, g0, g1, i1⟩ := ix_at HI.out.idx.2.2.2 hc
          have hb2 : b1 < V.heap.size := Nat.lt_of_lt_of_le hb1 HB.out.size
          rw [hA]
          have p0 : wr.cell? ⟨b1, o1 + j * 2, none⟩ = some (.string (txt c.1)) := (hlo.cell (p := ⟨b1, o1 + j * 2, none⟩) hb2).trans (g0)
          have p1 : wr.cell? ⟨b1, o1 + j * 2 + 1, none⟩ = some (.slice P pn pc) := (hlo.cell (p := ⟨b1, o1 + j * 2 + 1, none⟩) hb2).trans (g1)
          obtain ⟨W1, hW1⟩ : ∃ W, wr.alloc (.cells #[.string (txt c.1), .slice P pn pc] 58) = W := ⟨_, rfl⟩
          have hbw : Below wr.heap.size wr W1 := by rw [← hW1]; exact al (Below.refl _ _) _
          have hcel : Cel W1 wr.heap.size 58 #[.string (txt c.1), .slice P pn pc] := by rw [← hW1]; exact Cel.new _ _ _ rfl
          have q1 : W1.cell? ⟨wr.heap.size, 1, none⟩ = some (.slice P pn pc) := hcel.at_ 1
          obtain ⟨hr, hl, hP⟩ := row_str i1
          obtain ⟨L1, hL1⟩ : ∃ L1, x.cons.flatMap useC ++ (x.idx.take j).map (·.2) = L1 := ⟨_, rfl⟩
          have h1c := HE1.out.call hbw
          rw [hL1] at h1c
          have HT1 := Lib.hid h1c
          obtain ⟨n1, hn1⟩ : ∃ n1, L1.length = n1 := ⟨_, rfl⟩
          have HLN := Lib.hid (show L1.length = n1 ∧ n1 + 2 ≤ 100000 from by
            refine ⟨hn1, ?_⟩
            rw [← hn1, ← hL1]
            have h4 := HN4.out; have := use_len x.cons; simp only [List.length_append, List.length_map, List.length_take]; omega)
          have HAP := Lib.hid (show ∀ v' w', w'.ownsRow V.heap.size tSl 1 v' (n1 + 1) (HT1.out.us ++ [.slice P pn pc]) → (W1.alloc (.cells #[.slice P pn pc] tSl)).grownBy w' v.ownBlock → TN w.heap.size V v' (x.cons.flatMap useC ++ (x.idx.take (j + 1)).map (·.2)) w' from fun v' w' g1 g2 => (HT1.out.more_n hn1 hl.symm hP ((RowQ.old hr HB.out.size hlo).below hbw) g1 g2).to (by rw [take_map_on hc, ← List.append_assoc, hL1]))
          clear hlo hA hb1 hb2 hc hr hl hP i1 hbw hcel g0 g1 hn1 hL1 h1c HE1
          go_wp2_with (at_builtin; refine wp_one (x := .slice P pn pc) elemR V.heap.size (.tmp 37) (.tmp 40) rfl rfl rfl (HT1.out.own_n HLN.out.1) rfl rfl (by have := HLN.out; omega) (by have := HLN.out; omega) HT1.out.low.size ?_; intro v2 w2 g1 g2 g3; obtain ⟨A2, a2, rfl⟩ := own_slice g1; have HR := Lib.hid (HAP.out _ _ g1 g2); clear g1 g2 g3)
          go_roundw
          case rel => exact ⟨j + 1, _, by omega, by go_num, rfl, HR⟩
          case measure => simp [intOf]; omega
          -->
        · have tl : decide ((j : Int) < (f.n5 : Int)) = false := decide_eq_false (by omega)
          have tl2 : decide (j < f.n5) = false := decide_eq_false hlt
          obtain rfl : j = f.n5 := by omega
          have T5 := Lib.hid (show TN w.heap.size V v (usesL x) wr from by have h1 := HE1.out; rw [HN5.out, List.take_length] at h1; exact h1)
          go_wp2
          go_ret
          exact UseD.of T5.out HB.out
end Go.Proofs.YtcblddpapehdeaaDoor.Tk
