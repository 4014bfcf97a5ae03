/- table.isUnlike of any table: does no name stand twice where it may stand only once? Columns by their names, from the last one on: the program's map. -/
import Derived.Test.YtcblddpapehdeaaDoorC24
import Derived.Test.YtcblddpapehdeaaDoorC34
import Derived.Maps.OwnIn
import Derived.Test.YtcblddpapehdeaaDoorC17
import Derived.Test.YtcblddpapehdeaaDoorC19
namespace Go.Proofs.YtcblddpapehdeaaDoor.Tk
open Go.RowKit Go.Proofs.YtcblddpapehdeaaDoor.Mem Go.Proofs.YtcblddpapehdeaaDoor.Ep Go.Proofs.YtcblddpapehdeaaDoor.Sm Go.Proofs.YtcblddpapehdeaaDoor.Right Go.Proofs.YtcblddpapehdeaaDoor.Lx Go.ChangeShapes Go.WideShapes
set_option linter.unusedVariables false
section
variable {B : Nat} {V w w' : World} {v : Value} {parts : List (List Bs)}
theorem TN.mores {v' : Value} {news : List Value} {ls : List (List Bs)} {m : Nat} {o : Obj} (h : TN B V v parts w) (hm : parts.length = m) (hl : news.length = ls.length) (hat : ∀ (k : Nat) (u : Value) (l : List Bs), news[k]? = some u → ls[k]? = some l → ∃ P c, u = .slice P l.length c ∧ (P = none → c = 0) ∧ RowQ B w P (l.map str))
    (g1 : w'.ownsRow V.heap.size tSl 1 v' (m + ls.length) (h.us ++ news)) (g2 : (w.alloc o).grownBy w' v.ownBlock) : TN B V v' (parts ++ ls) w' := by
  have ha := al (Below.refl w.heap.size w) o
  have hown := h.own.alloc o
  have hb1 := al h.low o
  refine ⟨h.hB, ⟨h.us ++ news, by rw [List.length_append, hm]; exact g1, by rw [List.length_append, List.length_append, h.dat.len, hl], fun k u q hu hq => ?_⟩, hb1.trans ⟨g2.os, g2.tape, g2.output, g2.size, fun j hj => g2.block j (by have := hb1.size; omega) (fun e => by have := (h.own.lt j e.symm).1; omega)⟩⟩
  by_cases hk : k < parts.length
  · rw [List.getElem?_append_left (by rw [h.dat.len]; exact hk)] at hu
    rw [List.getElem?_append_left hk] at hq
    obtain ⟨P, c, h1, h2, h3⟩ := h.dat.at_ k u q hu hq
    exact ⟨P, c, h1, h2, (h3.below ha).grown h.hB hown g2⟩
  · rw [List.getElem?_append_right (by rw [h.dat.len]; omega), h.dat.len] at hu
    rw [List.getElem?_append_right (by omega)] at hq
    obtain ⟨P, c, h1, h2, h3⟩ := hat _ u q hu hq
    exact ⟨P, c, h1, h2, (h3.below ha).grown h.hB hown g2⟩
theorem TN.two {v' : Value} {A2 A3 : Option Addr} {c2 c3 m : Nat} {L2 L3 : List Bs} {o : Obj} (h : TN B V v parts w) (hm : parts.length = m) (h2 : RowQ B w A2 (L2.map str)) (h3 : RowQ B w A3 (L3.map str)) (n2 : A2 = none → c2 = 0) (n3 : A3 = none → c3 = 0)
    (g1 : w'.ownsRow V.heap.size tSl 1 v' (m + 2) (h.us ++ [.slice A2 L2.length c2, .slice A3 L3.length c3])) (g2 : (w.alloc o).grownBy w' v.ownBlock) : TN B V v' (parts ++ [L2, L3]) w' :=
  h.mores hm rfl (fun k u l hu hl => by
    match k, hu, hl with
    | 0, hu, hl => cases hu; cases hl; exact ⟨_, _, rfl, n2, h2⟩
    | 1, hu, hl => cases hu; cases hl; exact ⟨_, _, rfl, n3, h3⟩) g1 g2
end
/-- All lists in which no name may stand twice. -/
def unlL (x : Tb) : List (List Bs) := usesL x ++ [x.cols.map (·.nm), x.cons.map (·.nm) ++ x.idx.map (·.1)] ++ x.cons.map (·.refs)
set_option maxRecDepth 20000 in
set_option maxHeartbeats 8000000 in
theorem unlike_any (x : Tb) (f : Fb) (w : World) (hx : FbIn w w.heap.size f x) (h3 : f.n3 ≤ 1000) (h4 : f.n4 ≤ 1000) (h5 : f.n5 ≤ 1000) (hz : ∀ c ∈ x.cons, c.kind = 2 → Lim c.chk ∧ size c.chk ≤ 1000) (hzz : ∀ l ∈ unlL x, l.length ≤ 100000 ∧ ∀ s ∈ l, s.length ≤ 1000000) : Calls Tryd.prog 40 #[.agg #[.string (txt x.nm), .string (txt x.own), .int .i64 x.ver, .slice f.A3 f.n3 f.a3, .slice f.A4 f.n4 f.a4, .slice f.A5 f.n5 f.a5]] w fun e w' => e = .returned (.bool (!repsB (unlL x))) ∧ Below w.heap.size w w' := by
  obtain ⟨V, hV⟩ : ∃ W1, w.alloc (.cells #[.string (txt x.nm), .string (txt x.own), .int .i64 x.ver, .slice f.A3 f.n3 f.a3, .slice f.A4 f.n4 f.a4, .slice f.A5 f.n5 f.a5] tTb) = W1 := ⟨_, rfl⟩
  have hb : Below w.heap.size w V := by rw [← hV]; exact al (Below.refl _ _) _
  have HX := Lib.hid (show Tbx V w.heap.size f x from by rw [← hV]; exact tbx_new hx)
  have HFA := Lib.hid (fun W (g : Below V.heap.size V W) => HX.out.facts g)
  have HE := Lib.hid (show ∀ W, Below V.heap.size V W → Below w.heap.size w W from fun W g => hb.trans (g.mono hb.size))
  have HI := Lib.hid (hx.below hb)
  have HB := Lib.hid hb
  have HN4 := Lib.hid hx.n4
  obtain ⟨ya0, ya1, ya2, ya3, ya4, ya5, yb0, yb1, yb2, yb3, yb4, yb5⟩ := HFA.out V (Below.refl _ _)
  obtain ⟨U, hU⟩ : ∃ L, usesL x = L := ⟨_, rfl⟩
  obtain ⟨L2, hL2⟩ : ∃ L, x.cols.map (·.nm) = L := ⟨_, rfl⟩
  obtain ⟨L3, hL3⟩ : ∃ L, x.cons.map (·.nm) ++ x.idx.map (·.1) = L := ⟨_, rfl⟩
  obtain ⟨m, hm⟩ : ∃ m, U.length = m := ⟨_, rfl⟩
  have HM := Lib.hid hm
  have HMB := Lib.hid (show m ≤ 10000 ∧ f.n4 ≤ 1000 from ⟨by have h1 := usesL_len x; have h2 := hx.n4; have h3 := hx.n5; rw [hU, hm] at h1; omega, h4⟩)
  have HUN := Lib.hid (show unlL x = U ++ [L2, L3] ++ x.cons.map (·.refs) from by unfold unlL; rw [hU, hL2, hL3])
  have HZZ := Lib.hid hzz
  have HUS := Lib.hid (show ∀ W, Below V.heap.size V W → Calls Tryd.prog 55 #[.agg #[.string (txt x.nm), .string (txt x.own), .int .i64 x.ver, .slice f.A3 f.n3 f.a3, .slice f.A4 f.n4 f.a4, .slice f.A5 f.n5 f.a5]] W fun e w' => ∃ A c, e = .returned (.slice A m c) ∧ TN W.heap.size W (.slice A m c) U w' from fun W g => (uses_any x f W (HX.out.on g).all (by omega) (by omega) hz).mono fun e w' ⟨A, c, h1, h2⟩ => ⟨A, c, by rw [h1, hU, hm], by rw [hU, hm] at h2; exact h2⟩)
  have HCO := Lib.hid (show ∀ W, Below V.heap.size V W → Calls Tryd.prog 79 #[.agg #[.string (txt x.nm), .string (txt x.own), .int .i64 x.ver, .slice f.A3 f.n3 f.a3, .slice f.A4 f.n4 f.a4, .slice f.A5 f.n5 f.a5]] W (TxtD L2 W) from fun W g => hL2 ▸ columns_any x f W ((HX.out.on g).all) (by omega))
  have HLA := Lib.hid (show ∀ W, Below V.heap.size V W → Calls Tryd.prog 58 #[.agg #[.string (txt x.nm), .string (txt x.own), .int .i64 x.ver, .slice f.A3 f.n3 f.a3, .slice f.A4 f.n4 f.a4, .slice f.A5 f.n5 f.a5]] W (TxtD L3 W) from fun W g => hL3 ▸ labels_any x f W ((HX.out.on g).all) (by omega) (by omega))
  obtain ⟨i0, hi0, hz0, hz1, hz2⟩ := info_parts (show (Tryd.prog.info? 32).map (fun i => (i.zero, i.size, i.bytes)) = some (some (.slice none 0 0), 1, 24) from by kernel_rfl)
  clear hx hb hz hzz hL2 hL3 hU hm h3 h4 h5
  go_enter Tryd.func40, Tryd.ntmps40
  go_upto_region 1 with fail
  try simp only [List.append_eq, List.cons_append, List.nil_append]
  go_cut [3] from 6 to 13 (fun v wx => ∃ A4 n4 c4, v = .slice A4 n4 c4 ∧ Hid (TN V.heap.size V (.slice A4 n4 c4) (U ++ [L2, L3]) wx))
  case first =>
    go_region_held3 (fun W => W.cell? ⟨w.heap.size, 0, none⟩ = some (.string (txt x.nm)) ∧ W.cell? ⟨w.heap.size, 1, none⟩ = some (.string (txt x.own)) ∧ W.cell? ⟨w.heap.size, 2, none⟩ = some (.int .i64 x.ver) ∧ W.cell? ⟨w.heap.size, 3, none⟩ = some (.slice f.A3 f.n3 f.a3) ∧ W.cell? ⟨w.heap.size, 4, none⟩ = some (.slice f.A4 f.n4 f.a4) ∧ W.cell? ⟨w.heap.size, 5, none⟩ = some (.slice f.A5 f.n5 f.a5)) (first | exact ⟨ea0, ea1, ea2, ea3, ea4, ea5⟩ | exact ⟨db0 _, db1 _, db2 _, db3 _, db4 _, db5 _⟩ | exact ⟨da0, da1, da2, da3, da4, da5⟩ | exact ⟨ca0, ca1, ca2, ca3, ca4, ca5⟩ | exact ⟨ba0, ba1, ba2, ba3, ba4, ba5⟩ | exact ⟨ya0, ya1, ya2, ya3, ya4, ya5⟩ | go_keep)
      (first | (go_at_call 55; (refine (HUS.out _ (by repeat (first | exact Below.refl _ _ | apply Below.drew))).mono ?_); rintro e1 w1 ⟨A1, c1, rfl, ht1⟩; have HB1 := Lib.hid (Mem.on (show Below V.heap.size V _ from (by repeat (first | exact Below.refl _ _ | apply Below.drew))) ht1.low); have HT1 := Lib.hid (show TN V.heap.size V (.slice A1 m c1) U w1 from ⟨Nat.le_refl _, ht1.ex, HB1.out⟩); obtain ⟨ba0, ba1, ba2, ba3, ba4, ba5, bb0, bb1, bb2, bb3, bb4, bb5⟩ := HFA.out w1 HB1.out; clear ht1) | (go_at_call 79; (refine (HCO.out _ HB1.out).mono ?_); rintro e2 w2 ⟨A2, c2, rfl, ht2⟩; have HB2 := Lib.hid (Mem.on HB1.out ht2.low); have HT12 := Lib.hid (HT1.out.call ht2.low); have HT2 := Lib.hid ht2; obtain ⟨ca0, ca1, ca2, ca3, ca4, ca5, cb0, cb1, cb2, cb3, cb4, cb5⟩ := HFA.out w2 HB2.out; clear ht2) | (go_at_call 58; (refine (HLA.out _ HB2.out).mono ?_); rintro e3 w3 ⟨A3, c3, rfl, ht3⟩; have HB3 := Lib.hid (Mem.on HB2.out ht3.low); have HT13 := Lib.hid (HT12.out.call ht3.low); have HT3 := Lib.hid ht3; have HQ2 := Lib.hid ((RowQ.new (B := V.heap.size) HT2.out).below ht3.low); have HQ3 := Lib.hid (RowQ.new (B := V.heap.size) ht3); obtain ⟨da0, da1, da2, da3, da4, da5, db0, db1, db2, db3, db4, db5⟩ := HFA.out w3 HB3.out; clear ht3) | (refine step_append_lies _ (by rfl) _ _ _ (by rfl) V.heap.size 32 i0 _ 1 24 Tryd.underlying84 hi0 hz0 hz1 hz2 rfl (by omega) (.slice A1 m c1) m HT13.out.us (by rfl) ((HT13.out.own_n HM.out).alloc _) ⟨w3.heap.size, 0, none⟩ 2 2 [.slice A2 L2.length c2, .slice A3 L3.length c3] (by rfl) (by rfl) (World.news_of_block (heap_alloc_new w3 _)) (by simp [Value.oneCell']) (by omega) (by have := HMB.out; unfold maxLen; omega) (by have := HMB.out; omega) (by have := HB3.out.size; simp; omega) (w3.heap.size + 1) (by simp) ?_; intro g4 cap w4 hown4 hgrow4 hat4 hlt4; have HT4 := Lib.hid (HT13.out.two HM.out HQ2.out HQ3.out HT2.out.nil0 HT3.out.nil0 hown4 hgrow4); have HB4 := Lib.hid HT4.out.low; obtain ⟨ea0, ea1, ea2, ea3, ea4, ea5, eb0, eb1, eb2, eb3, eb4, eb5⟩ := HFA.out w4 HB4.out; clear hown4 hgrow4 hat4 hlt4))
    all_goals
      go_wp2_with fail
      go_meet
      exact ⟨_, _, _, rfl, HT4⟩
  case rest =>
    obtain ⟨A4, n4, c4, rfl, HT4⟩ := hcut
    clear HUS HCO HLA
    have hn4 : n4 = m + 2 := by
      obtain ⟨A', c', e, -⟩ := HT4.out.rows
      injection e with _ e _
      rw [e, List.length_append, HM.out]; rfl
    subst hn4
    obtain ⟨za0, za1, za2, za3, za4, za5, zb0, zb1, zb2, zb3, zb4, zb5⟩ := HFA.out wc HT4.out.low
    obtain ⟨U2, hU2⟩ : ∃ L, U ++ [L2, L3] = L := ⟨_, rfl⟩
    have HUN2 := Lib.hid (show unlL x = U2 ++ x.cons.map (·.refs) ∧ U2.length = m + 2 from ⟨by rw [HUN.out, hU2], by rw [← hU2, List.length_append, HM.out]; rfl⟩)
    rw [hU2] at HT4
    clear hU2
    go_wp2
    clear za0 za1 za2 za3 za4 za5 zb0 zb1 zb2 zb3 zb4 zb5
    go_loopw [17, 3] (fun i u wr => ∃ (j n1 : Nat) (v : Value), j ≤ f.n4 ∧ i = .int .i64 (j : Int) ∧ v = u ∧ Hid (n1 = m + 2 + j) ∧ Hid (TN V.heap.size V v (U2 ++ (x.cons.take j).map (·.refs)) wr)) (fun i _ _ => f.n4 + 1 - (intOf i).toNat)
    case atStart => exact ⟨0, m + 2, _, Nat.zero_le _, rfl, rfl, Lib.hid rfl, Lib.hid (by rw [List.take_zero, List.map_nil, List.append_nil]; exact HT4.out)⟩
    case round =>
      obtain ⟨j, n1, v, hj, rfl, rfl, HN1, HE1⟩ := hrel
      have hmx : f.n4 ≤ 2 ^ 63 - 1 := by have := HMB.out; omega
      have hlo := HE1.out.low
      by_cases hlt : j < f.n4
      · --<
          obtain ⟨c, hc⟩ := some_at HN4.out.symm hlt
          have tl : decide ((j : Int) < (f.n4 : Int)) = true := decide_eq_true (by omega)
          have tl2 : decide (j < f.n4) = true := decide_eq_true hlt
          obtain ⟨b1, o1, P, pn, pc, k0, o0, vk, vn, vs, ns, A0, m0, c0, Q, qn, qc, hA, hb1, hp, -, -, i3⟩ := cn_at HI.out.cons.2.2.2 hc
          have hb2 : b1 < V.heap.size := Nat.lt_of_lt_of_le hb1 HB.out.size
          rw [hA]
          have p0 : wr.cell? ⟨b1, o1 + j * 12, none⟩ = some (.string (txt c.nm)) := (hlo.cell (p := ⟨b1, o1 + j * 12, none⟩) hb2).trans (hp 0 _ rfl)
          have p1 : wr.cell? ⟨b1, o1 + j * 12 + 1, none⟩ = some (.int .i64 c.kind) := (hlo.cell (p := ⟨b1, o1 + j * 12 + 1, none⟩) hb2).trans (hp 1 _ rfl)
          have p2 : wr.cell? ⟨b1, o1 + j * 12 + 2, none⟩ = some (.slice P pn pc) := (hlo.cell (p := ⟨b1, o1 + j * 12 + 2, none⟩) hb2).trans (hp 2 _ rfl)
          have p3 : wr.cell? ⟨b1, o1 + j * 12 + 3, none⟩ = some (.int .i64 k0) := (hlo.cell (p := ⟨b1, o1 + j * 12 + 3, none⟩) hb2).trans (hp 3 _ rfl)
          have p4 : wr.cell? ⟨b1, o1 + j * 12 + 4, none⟩ = some (.int .i64 o0) := (hlo.cell (p := ⟨b1, o1 + j * 12 + 4, none⟩) hb2).trans (hp 4 _ rfl)
          have p5 : wr.cell? ⟨b1, o1 + j * 12 + 5, none⟩ = some (.int .i64 vk) := (hlo.cell (p := ⟨b1, o1 + j * 12 + 5, none⟩) hb2).trans (hp 5 _ rfl)
          have p6 : wr.cell? ⟨b1, o1 + j * 12 + 6, none⟩ = some (.int .i64 vn) := (hlo.cell (p := ⟨b1, o1 + j * 12 + 6, none⟩) hb2).trans (hp 6 _ rfl)
          have p7 : wr.cell? ⟨b1, o1 + j * 12 + 7, none⟩ = some (.string vs) := (hlo.cell (p := ⟨b1, o1 + j * 12 + 7, none⟩) hb2).trans (hp 7 _ rfl)
          have p8 : wr.cell? ⟨b1, o1 + j * 12 + 8, none⟩ = some (.string ns) := (hlo.cell (p := ⟨b1, o1 + j * 12 + 8, none⟩) hb2).trans (hp 8 _ rfl)
          have p9 : wr.cell? ⟨b1, o1 + j * 12 + 9, none⟩ = some (.slice A0 m0 c0) := (hlo.cell (p := ⟨b1, o1 + j * 12 + 9, none⟩) hb2).trans (hp 9 _ rfl)
          have p10 : wr.cell? ⟨b1, o1 + j * 12 + 10, none⟩ = some (.string (txt c.tbl)) := (hlo.cell (p := ⟨b1, o1 + j * 12 + 10, none⟩) hb2).trans (hp 10 _ rfl)
          have p11 : wr.cell? ⟨b1, o1 + j * 12 + 11, none⟩ = some (.slice Q qn qc) := (hlo.cell (p := ⟨b1, o1 + j * 12 + 11, none⟩) hb2).trans (hp 11 _ rfl)
          obtain ⟨W1, hW1⟩ : ∃ W, wr.alloc (.cells #[.string (txt c.nm), .int .i64 c.kind, .slice P pn pc, .int .i64 k0, .int .i64 o0, .int .i64 vk, .int .i64 vn, .string vs, .string ns, .slice A0 m0 c0, .string (txt c.tbl), .slice Q qn qc] 56) = W := ⟨_, rfl⟩
          have hbw : Below wr.heap.size wr W1 := by rw [← hW1]; exact al (Below.refl _ _) _
          have hcel : Cel W1 wr.heap.size 56 #[.string (txt c.nm), .int .i64 c.kind, .slice P pn pc, .int .i64 k0, .int .i64 o0, .int .i64 vk, .int .i64 vn, .string vs, .string ns, .slice A0 m0 c0, .string (txt c.tbl), .slice Q qn qc] := by rw [← hW1]; exact Cel.new _ _ _ rfl
          have q11 : W1.cell? ⟨wr.heap.size, 11, none⟩ = some (.slice Q qn qc) := hcel.at_ 11
          obtain ⟨hr, hl, hP⟩ := row_str i3
          obtain ⟨L1, hL1⟩ : ∃ L1, U2 ++ (x.cons.take j).map (·.refs) = L1 := ⟨_, rfl⟩
          have h1c := HE1.out.call hbw
          rw [hL1] at h1c
          have HT1 := Lib.hid h1c
          have HLN := Lib.hid (show L1.length = n1 ∧ n1 + 2 ≤ 100000 from by
            have h1 := HN1.out
            have h2 := HMB.out
            refine ⟨?_, by omega⟩
            rw [← hL1, List.length_append, List.length_map, List.length_take, HUN2.out.2]
            have := HN4.out
            omega)
          have HAP := Lib.hid (show ∀ v' w', w'.ownsRow V.heap.size tSl 1 v' (n1 + 1) (HT1.out.us ++ [.slice Q qn qc]) → (W1.alloc (.cells #[.slice Q qn qc] tSl)).grownBy w' v.ownBlock → TN V.heap.size V v' (U2 ++ (x.cons.take (j + 1)).map (·.refs)) w' from fun v' w' g1 g2 => (HT1.out.more_n HLN.out.1 hl.symm hP ((RowQ.old (hr.more HB.out.size) (Nat.le_refl _) hlo).below hbw) g1 g2).to (by rw [take_map_on hc, ← List.append_assoc, hL1]))
          clear hlo hA hb1 hb2 hc hr hl hP i3 hp hbw hcel hL1 h1c HE1
          go_wp2_with (at_builtin; refine wp_one (x := .slice Q qn qc) elemR V.heap.size (.tmp 21) (.tmp 24) rfl rfl rfl (HT1.out.own_n HLN.out.1) rfl rfl (by have := HLN.out; omega) (by have := HLN.out; omega) HT1.out.low.size ?_; intro v2 w2 g1 g2 g3; obtain ⟨A2, a2, rfl⟩ := own_slice g1; have HR := Lib.hid (HAP.out _ _ g1 g2); clear g1 g2 g3)
          go_roundw
          case rel => exact ⟨j + 1, n1 + 1, _, by omega, by go_num, rfl, Lib.hid (by have := HN1.out; omega), HR⟩
          case measure => simp [intOf]; omega
        -->
      · have tl : decide ((j : Int) < (f.n4 : Int)) = false := decide_eq_false (by omega)
        have tl2 : decide (j < f.n4) = false := decide_eq_false hlt
        obtain rfl : j = f.n4 := by omega
        have T5 := Lib.hid (show TN V.heap.size V v (unlL x) wr from by have h1 := HE1.out; rw [HN4.out, List.take_length] at h1; rw [HUN2.out.1]; exact h1)
        obtain ⟨A5, c5, hv5, hr5⟩ := T5.out.rows
        have hl5 : (unlL x).length = n1 := by
          rw [HUN2.out.1, List.length_append, List.length_map, HUN2.out.2, HN1.out, HN4.out]
        rw [hl5] at hv5
        subst hv5
        have HCF := Lib.hid (containsRep_any (c := c5) n1 hl5 (by have h1 := HN1.out; have h2 := HMB.out; omega) HZZ.out hr5)
        clear hr5 hl5 hmx
        go_wp2_with (go_at_call 54; (with_reducible refine HCF.out.mono ?_); rintro e5 w5 ⟨rfl, hb5⟩; have HB5 := Lib.hid (Mem.on T5.out.low hb5); clear hb5)
        go_ret
        exact ⟨rfl, HE.out _ HB5.out⟩
end Go.Proofs.YtcblddpapehdeaaDoor.Tk
namespace Go.Proofs.YtcblddpapehdeaaDoor.Tk
open Go.RowKit Go.Proofs.YtcblddpapehdeaaDoor.Mem Go.Proofs.YtcblddpapehdeaaDoor.Ep Go.Proofs.YtcblddpapehdeaaDoor.Sm
set_option linter.unusedVariables false
def nmAt (cols : List Co) (i : Nat) : Bs := (cols[i]?.getD co0).nm
/-- The map behind these columns. -/
def PD (cols : List Co) (pre : List Nat) : DataW Unit := pre.foldl (fun D i => D.put (.string (nmAt cols i)) (.lit (.int .i64 (i : Int)))) (.map [])
theorem pd_on (cols : List Co) (pre : List Nat) (i : Nat) : PD cols (pre ++ [i]) = (PD cols pre).put (.string (nmAt cols i)) (.lit (.int .i64 (i : Int))) := by
  unfold PD
  rw [List.foldl_append]; rfl
theorem isMap_put {D : DataW Unit} {k : Lit} {d : DataW Unit} (h : Maps.IsMap D) : Maps.IsMap (D.put k d) := by
  obtain ⟨es, rfl⟩ := h
  exact ⟨_, rfl⟩
theorem pd_map (cols : List Co) (pre : List Nat) : Maps.IsMap (PD cols pre) := by
  unfold PD
  generalize hD : (DataW.map [] : DataW Unit) = D
  have h : Maps.IsMap D := ⟨[], hD.symm⟩
  clear hD
  induction pre generalizing D with
  | nil => exact h
  | cons i l ih => rw [List.foldl_cons]; exact ih _ (isMap_put h)
theorem str_ne {a b : Bs} (h : a ≠ b) : Lit.string a ≠ Lit.string b := fun e => h (by injection e)
/-- The first column of the name, of those that have been laid, counts. -/
theorem pd_at (cols : List Co) (m : Nat) (hm : cols.length = m) : ∀ k, k ≤ m → ∀ s : Bs,
    ((∀ i, m - k ≤ i → i < m → nmAt cols i ≠ s) → Maps.has (PD cols (downs m k)) (.string s) = false) ∧
    (∀ j, m - k ≤ j → j < m → nmAt cols j = s → (∀ i, m - k ≤ i → i < j → nmAt cols i ≠ s) → Maps.has (PD cols (downs m k)) (.string s) = true ∧ ∀ z, (PD cols (downs m k)).atKey (.string s) z = .lit (.int .i64 (j : Int)))
  | 0, _, s => ⟨fun _ => Maps.has_false_of_atKey (fun z => rfl), fun j h1 h2 _ _ => by omega⟩
  | k + 1, hk, s => by
    obtain ⟨h1, h2⟩ := pd_at cols m hm k (by omega) s
    have e : downs m (k + 1) = downs m k ++ [m - 1 - k] := rfl
    rw [e, pd_on]
    have hM := pd_map cols (downs m k)
    by_cases hs : nmAt cols (m - 1 - k) = s
    · subst hs
      refine ⟨fun g => absurd rfl (g (m - 1 - k) (by omega) (by omega)), fun j g1 g2 g3 g4 => ?_⟩
      have hj : j = m - 1 - k := by
        rcases Nat.lt_or_ge (m - 1 - k) j with h | h
        · exact absurd rfl (g4 (m - 1 - k) (by omega) h)
        · omega
      subst hj
      have hK : WideAt.IsKeyLit (Lit.string (nmAt cols (m - 1 - k))) := trivial
      exact ⟨Maps.has_put_same hM hK _, fun z => Maps.atKey_put_same hM hK _ _⟩
    · refine ⟨fun g => ?_, fun j g1 g2 g3 g4 => ?_⟩
      · rw [Maps.has_put_other (str_ne fun e => hs e.symm)]
        exact h1 fun i i1 i2 => g i (by omega) i2
      · have hj : j ≠ m - 1 - k := fun e => by subst e; exact hs g3
        rw [Maps.has_put_other (str_ne fun e => hs e.symm)]
        have := h2 j (by omega) g2 g3 (fun i i1 i2 => g4 i (by omega) i2)
        refine ⟨this.1, fun z => ?_⟩
        rw [Maps.atKey_put_other (str_ne fun e => hs e.symm)]
        exact this.2 z
theorem nmAt_is {cols : List Co} {i : Nat} {c : Co} (h : cols[i]? = some c) : nmAt cols i = c.nm := by unfold nmAt; rw [h]; rfl
/-- So all columns laid tell a column's place. -/
theorem pd_all (cols : List Co) (m : Nat) (hm : cols.length = m) (s : Bs) : (colI cols s < 0 ∧ Maps.has (PD cols (downs m m)) (.string s) = false) ∨ (0 ≤ colI cols s ∧ Maps.has (PD cols (downs m m)) (.string s) = true ∧ ∀ z, (PD cols (downs m m)).atKey (.string s) z = .lit (.int .i64 (colI cols s))) := by
  obtain ⟨h1, h2⟩ := pd_at cols m hm m (Nat.le_refl _) s
  by_cases h : ∀ y ∈ cols, ¬ y.nm = s
  · left
    refine ⟨by rw [colI_no h]; decide, h1 fun i _ hi => ?_⟩
    obtain ⟨c, hc⟩ := some_at hm hi
    rw [nmAt_is hc]
    exact h c (List.mem_of_getElem? hc)
  · right
    -- the least one
    have hex : ∃ j, j < m ∧ nmAt cols j = s := by
      refine Classical.byContradiction fun g => h fun y hy e => g ?_
      obtain ⟨j, hj, rfl⟩ := List.mem_iff_getElem.1 hy
      exact ⟨j, by omega, by rw [nmAt_is (List.getElem?_eq_getElem hj)]; exact e⟩
    have hle : ∀ n, (∃ j, j < n ∧ nmAt cols j = s) → ∃ j, j < n ∧ nmAt cols j = s ∧ ∀ i, i < j → nmAt cols i ≠ s := by
      intro n
      induction n with
      | zero => rintro ⟨j, hj, _⟩; omega
      | succ n ih =>
        rintro ⟨j, hj, e⟩
        by_cases g : ∃ j, j < n ∧ nmAt cols j = s
        · obtain ⟨i, hi, e2, e3⟩ := ih g
          exact ⟨i, by omega, e2, e3⟩
        · have : j = n := by
            refine Classical.byContradiction fun q => g ⟨j, by omega, e⟩
          subst this
          exact ⟨j, hj, e, fun i hi e2 => g ⟨i, hi, e2⟩⟩
    obtain ⟨j, hj, e, hl⟩ := hle m hex
    obtain ⟨c, hc⟩ := some_at hm hj
    have hI : colI cols s = (j : Int) := by
      refine colI_at hc (by rw [← nmAt_is hc]; exact e) fun y hy => ?_
      obtain ⟨i, hi, rfl⟩ := List.mem_iff_getElem.1 hy
      rw [List.length_take] at hi
      rw [List.getElem_take, ← nmAt_is (List.getElem?_eq_getElem (by omega))]
      exact hl i (by omega)
    rw [hI]
    have := h2 j (by omega) hj e fun i _ hi => hl i hi
    exact ⟨by omega, this.1, this.2⟩
end Go.Proofs.YtcblddpapehdeaaDoor.Tk
