/- texts put together: NfThen, NfMany. -/
import Derived.Test.YtmfgplbfojnkdaaNf03
namespace Go.Proofs.Ytmfgplbfojnkdaa
open Go Go.RowKit Go.ChangeShapes cl rx
def OfP (q : Nat) (b b' : nf.Bd) (w : World) (e : Ending) (w' : World) : Prop := e = .returned (.tuple #[.int .i64 b.sz, .int .i64 (b.sz + 1 : Nat)]) ∧ BdAt q b' w' ∧ NK q w w'
def Lays (q d D : Nat) : Prop := ∀ (x : Pat) (c : List Value) (b : nf.Bd) (w : World), rxR d w q c x → okF D x = true → BdAt q b w → b.sz ≤ 400 → b.es.length ≤ 2 * b.sz → Calls Try.prog 22 #[.pointer (some ⟨q, 0, none⟩), .agg c.toArray] w (OfP q b (nf.of d x b) w)
theorem drop_consP {l : List Pat} {k : Nat} (h : k < l.length) : l.drop k = l.getD k default :: l.drop (k + 1) := by
 rw [List.drop_eq_getElem_cons h, List.getD_eq_getElem?_getD, List.getElem?_eq_getElem h]; rfl
theorem getD_memP {l : List Pat} {k : Nat} (h : k < l.length) : l.getD k default ∈ l := by
 rw [List.getD_eq_getElem?_getD, List.getElem?_eq_getElem h]
 exact List.getElem_mem _
set_option maxHeartbeats 6400000 in
set_option maxRecDepth 100000 in
theorem nf_then (q d D s f : Nat) (ks : List Pat) (v : Value) (b : nf.Bd) (w : World) (HR : Lays q d D) (hk : RowsAt 8 (rxR d) w q v ks) (hok : ∀ k ∈ ks, okF D k = true) (hb : BdAt q b w) (hs : b.sz ≤ 402) (he : b.es.length ≤ 2 * b.sz) :
  Calls Try.prog 38 #[.pointer (some ⟨q, 0, none⟩), v, .int .i64 s, .int .i64 f] w fun e w' => e = .returned (.tuple #[]) ∧ BdAt q ((nf.thenF (nf.of d) ks s b).2.free (nf.thenF (nf.of d) ks s b).1 f) w' ∧ NK q w w' := by
 obtain ⟨n, hn⟩ : ∃ n, n = ks.length := ⟨_, rfl⟩
 obtain ⟨ao, cap, rfl, _, hn6⟩ : ∃ ao cap, v = .slice ao n cap ∧ n ≤ cap ∧ n ≤ maxLen := RowsAt.form' hk hn
 have hn63 : n ≤ 9223372036854775807 := by unfold maxLen at hn6; exact hn6
 obtain ⟨T, hT⟩ : ∃ T, T = nf.thenF (nf.of d) ks s b := ⟨_, rfl⟩
 rw [← hT]
 have HT : Hid (nf.thenF (nf.of d) (ks.drop 0) s b = T) := hT.symm
 have HN := Lib.hid hn
 have HK := Lib.hid hk
 have HOK := Lib.hid hok
 have HRR := Lib.hid HR
 have HB := Lib.hid hb
 have HE := Lib.hid he
 clear hk hok HR hb hT hn hn6 he
 go_enter Try.func38, Try.ntmps38
 go_wp2
 go_step3
 go_wp2
 go_step3
 go_wp2
 go_loopw [8, 16] (fun en i wr => ∃ (j e' : Nat) (b' : nf.Bd), en = .int .i64 e' ∧ i = .int .i64 j ∧ j ≤ n ∧ Hid (nf.thenF (nf.of d) (ks.drop j) e' b' = T) ∧ Hid (BdAt q b' wr) ∧ Hid (NK q w wr) ∧ b'.sz ≤ 402 ∧ Hid (b'.es.length ≤ 2 * b'.sz)) (fun _ i _ => n - (intOf i).toNat)
 case atStart => exact ⟨0, s, b, rfl, rfl, by omega, HT.out, HB.out, NK.refl _ _, hs, HE.out⟩
 case round =>
  obtain ⟨j, e', b', rfl, rfl, hj, HTT, HBD, HNK, hs', HE'⟩ := hrel
  clear HB HE HT
  by_cases hjt : j < n
  ·
   have hjI : (j : Int) < (n : Int) := by omega
   obtain ⟨bb, off, c, rfl, hbq, hc8, hx, hcell⟩ := RowsAt.get (HK.out.below (rxR_steady d) HNK.out.below (Nat.le_refl _)) HN.out hjt default
   obtain ⟨x, hxe⟩ : ∃ x, x = ks.getD j default := ⟨_, rfl⟩
   rw [← hxe] at hx
   obtain ⟨ko, kn, kc, rfl⟩ := rx_form hx
   have p0 : wr.cell? ⟨bb, off + j * 8, none⟩ = some (.int .i64 x.k) := hcell 0 _ rfl
   have p1 : wr.cell? ⟨bb, off + j * 8 + 1, none⟩ = some (.int .u64 x.cl.a) := hcell 1 _ rfl
   have p2 : wr.cell? ⟨bb, off + j * 8 + 2, none⟩ = some (.int .u64 x.cl.b) := hcell 2 _ rfl
   have p3 : wr.cell? ⟨bb, off + j * 8 + 3, none⟩ = some (.int .u64 x.cl.c) := hcell 3 _ rfl
   have p4 : wr.cell? ⟨bb, off + j * 8 + 4, none⟩ = some (.int .u64 x.cl.d) := hcell 4 _ rfl
   have p5 : wr.cell? ⟨bb, off + j * 8 + 5, none⟩ = some (.slice ko kn kc) := hcell 5 _ rfl
   have p6 : wr.cell? ⟨bb, off + j * 8 + 6, none⟩ = some (.int .i64 x.mn) := hcell 6 _ rfl
   have p7 : wr.cell? ⟨bb, off + j * 8 + 7, none⟩ = some (.int .i64 x.mx) := hcell 7 _ rfl
   have hjl : j < ks.length := by rw [← HN.out]; exact hjt
   have HD : Hid (ks.drop j = x :: ks.drop (j + 1)) := by show _ = _; rw [drop_consP hjl, ← hxe]
   have HXO : Hid (okF D x = true) := by show _ = _; rw [hxe]; exact HOK.out _ (getD_memP hjl)
   obtain ⟨P, hP⟩ : ∃ P, P = wr.heap.size := ⟨_, rfl⟩
   obtain ⟨w1, hw1⟩ : ∃ W, W = wr.alloc (.cells #[.int .i64 x.k, .int .u64 x.cl.a, .int .u64 x.cl.b, .int .u64 x.cl.c, .int .u64 x.cl.d, .slice ko kn kc, .int .i64 x.mn, .int .i64 x.mx] 27) := ⟨_, rfl⟩
   have b1 : Below wr.heap.size wr w1 := by rw [hw1]; exact below1
   have x1 : w1.heap[P]? = some (.cells #[.int .i64 x.k, .int .u64 x.cl.a, .int .u64 x.cl.b, .int .u64 x.cl.c, .int .u64 x.cl.d, .slice ko kn kc, .int .i64 x.mn, .int .i64 x.mx] 27) := by rw [hw1, hP]; exact heap_alloc_new wr _
   have HBD1 := Lib.hid (HBD.out.next b1)
   have HNK1 := Lib.hid (HNK.out.trans (NK.of_below b1 (Nat.le_of_lt HBD.out.lt)))
   have HX1 := Lib.hid (rxR_steady d _ _ _ _ _ _ hx (b1.mono (Nat.le_of_lt HBD.out.lt)) (Nat.le_refl q))
   have HW1 := Lib.hid hw1
   have HPP := Lib.hid hP
   have HXX1 := Lib.hid x1
   have HF := Lib.hid (nf_full q b' w1 HBD1.out)
   have k0 := boxc x1 0 _ rfl
   have k1 := boxc x1 1 _ rfl
   have k2 := boxc x1 2 _ rfl
   have k3 := boxc x1 3 _ rfl
   have k4 := boxc x1 4 _ rfl
   have k5 := boxc x1 5 _ rfl
   have k6 := boxc x1 6 _ rfl
   have k7 := boxc x1 7 _ rfl
   clear hx hxe hcell hc8 hw1 hP b1 x1 hjl
   cases hfu : b'.full
   ·
    have h400 := nf.full_no hfu
    have HFU := Lib.hid hfu
    rw [hfu] at HF
    have HO := Lib.hid (HRR.out x _ b' w1 HX1.out HXO.out HBD1.out h400 HE'.out)
    have HLY := Lib.hid (nf.of_lay d x b' h400)
    clear hfu
    go_wp2_with fail
    rw [← HW1.out, ← HPP.out]
    (with_reducible refine HF.out.mono ?_)
    rintro e wF ⟨rfl, rfl⟩
    go_wp2_with fail
    (with_reducible refine HO.out.mono ?_)
    rintro e w2 ⟨rfl, hbd2, hnk2⟩
    have HBD2 := Lib.hid hbd2
    have HNK2 := Lib.hid (HNK1.out.trans hnk2)
    clear hbd2 hnk2 p0 p1 p2 p3 p4 p5 p6 p7 k0 k1 k2 k3 k4 k5 k6 k7
    have HFR := Lib.hid (nf_free q e' b'.sz (nf.of d x b') w2 HBD2.out (by have h1 := HLY.out.es; have h2 := HLY.out.top; have h3 := HE'.out; omega))
    go_wp2_with fail
    (with_reducible refine HFR.out.mono ?_)
    rintro e w3 ⟨rfl, hbd3, hnk3⟩
    have HBD3 := Lib.hid hbd3
    have HNK3 := Lib.hid (HNK2.out.trans hnk3)
    have HT3 : Hid (nf.thenF (nf.of d) (ks.drop (j + 1)) (b'.sz + 1) ((nf.of d x b').free e' b'.sz) = T) := by
     show _ = _
     rw [← HTT.out, HD.out, nf.thenF, HFU.out]; rfl
    have hs3 : ((nf.of d x b').free e' b'.sz).sz ≤ 402 := HLY.out.top
    have HE3 : Hid (((nf.of d x b').free e' b'.sz).es.length ≤ 2 * ((nf.of d x b').free e' b'.sz).sz) := by
     have h1 := HLY.out.es
     have h3 := HE'.out
     show _ ≤ 2 * (nf.of d x b').sz
     simp only [nf.Bd.free, List.length_append, List.length_cons, List.length_nil]
     omega
    clear hbd3 hnk3
    go_wp2
    go_roundw
    case rel => exact ⟨j + 1, b'.sz + 1, _, rfl, by go_num, by omega, HT3, HBD3, HNK3, hs3, HE3⟩
    case measure => simp [intOf]; omega
   ·
    have HFU := Lib.hid hfu
    rw [hfu] at HF
    clear hfu
    go_wp2_with fail
    rw [← HW1.out, ← HPP.out]
    (with_reducible refine HF.out.mono ?_)
    rintro e wF ⟨rfl, rfl⟩
    clear k0 k1 k2 k3 k4 k5 k6 k7 p0 p1 p2 p3 p4 p5 p6 p7
    have HTE : Hid (T = (e', b')) := by
     show _ = _
     rw [← HTT.out, HD.out, nf.thenF, HFU.out]; rfl
    have HFR := Lib.hid (nf_free q e' f b' _ HBD1.out (by have h3 := HE'.out; omega))
    go_wp2_with fail
    (with_reducible refine HFR.out.mono ?_)
    rintro e w3 ⟨rfl, hbd3, hnk3⟩
    have HR : Hid (BdAt q (T.2.free T.1 f) w3 ∧ NK q w w3) := by
     show _ ∧ _
     rw [HTE.out]
     exact ⟨hbd3, HNK1.out.trans hnk3⟩
    clear hbd3 hnk3
    go_wp2
    rw [Exit.noGoto_normal]
    go_end0
    exact ⟨rfl, HR.out⟩
  ·
   have hjn : n = j := by omega
   subst hjn
   have HBD1 := HBD
   have HNK1 := HNK
   have HTE : Hid (T = (e', b')) := by
    show _ = _
    rw [← HTT.out, HN.out, List.drop_length]; rfl
   have HFR := Lib.hid (nf_free q e' f b' _ HBD1.out (by have h3 := HE'.out; omega))
   go_wp2_with fail
   (with_reducible refine HFR.out.mono ?_)
   rintro e w3 ⟨rfl, hbd3, hnk3⟩
   have HR : Hid (BdAt q (T.2.free T.1 f) w3 ∧ NK q w w3) := by
    show _ ∧ _
    rw [HTE.out]
    exact ⟨hbd3, HNK1.out.trans hnk3⟩
   clear hbd3 hnk3
   go_wp2
   rw [Exit.noGoto_normal]
   go_end0
   exact ⟨rfl, HR.out⟩
set_option maxHeartbeats 6400000 in
set_option maxRecDepth 100000 in
theorem nf_or (q d D s f : Nat) (ks : List Pat) (v : Value) (b : nf.Bd) (w : World) (HR : Lays q d D) (hk : RowsAt 8 (rxR d) w q v ks) (hok : ∀ k ∈ ks, okF D k = true) (hb : BdAt q b w) (hs : b.sz ≤ 402) (he : b.es.length ≤ 2 * b.sz) :
  Calls Try.prog 39 #[.pointer (some ⟨q, 0, none⟩), v, .int .i64 s, .int .i64 f] w fun e w' => e = .returned (.tuple #[]) ∧ BdAt q (nf.orF (nf.of d) s f ks b) w' ∧ NK q w w' := by
 obtain ⟨n, hn⟩ : ∃ n, n = ks.length := ⟨_, rfl⟩
 obtain ⟨ao, cap, rfl, _, hn6⟩ : ∃ ao cap, v = .slice ao n cap ∧ n ≤ cap ∧ n ≤ maxLen := RowsAt.form' hk hn
 have hn63 : n ≤ 9223372036854775807 := by unfold maxLen at hn6; exact hn6
 obtain ⟨T, hT⟩ : ∃ T, T = nf.orF (nf.of d) s f ks b := ⟨_, rfl⟩
 rw [← hT]
 have HT : Hid (nf.orF (nf.of d) s f (ks.drop 0) b = T) := hT.symm
 have HN := Lib.hid hn
 have HK := Lib.hid hk
 have HOK := Lib.hid hok
 have HRR := Lib.hid HR
 have HB := Lib.hid hb
 have HE := Lib.hid he
 clear hk hok HR hb hT hn hn6 he
 go_enter Try.func39, Try.ntmps39
 go_wp2
 go_step3
 go_wp2
 go_step3
 go_wp2
 go_loopw [14] (fun i wr => ∃ (j : Nat) (b' : nf.Bd), i = .int .i64 j ∧ j ≤ n ∧ Hid (nf.orF (nf.of d) s f (ks.drop j) b' = T) ∧ Hid (BdAt q b' wr) ∧ Hid (NK q w wr) ∧ b'.sz ≤ 402 ∧ Hid (b'.es.length ≤ 2 * b'.sz)) (fun i _ => n - (intOf i).toNat)
 case atStart => exact ⟨0, b, rfl, by omega, HT.out, HB.out, NK.refl _ _, hs, HE.out⟩
 case round =>
  obtain ⟨j, b', rfl, hj, HTT, HBD, HNK, hs', HE'⟩ := hrel
  clear HB HE HT
  by_cases hjt : j < n
  ·
   have hjI : (j : Int) < (n : Int) := by omega
   obtain ⟨bb, off, c, rfl, hbq, hc8, hx, hcell⟩ := RowsAt.get (HK.out.below (rxR_steady d) HNK.out.below (Nat.le_refl _)) HN.out hjt default
   obtain ⟨x, hxe⟩ : ∃ x, x = ks.getD j default := ⟨_, rfl⟩
   rw [← hxe] at hx
   obtain ⟨ko, kn, kc, rfl⟩ := rx_form hx
   have p0 : wr.cell? ⟨bb, off + j * 8, none⟩ = some (.int .i64 x.k) := hcell 0 _ rfl
   have p1 : wr.cell? ⟨bb, off + j * 8 + 1, none⟩ = some (.int .u64 x.cl.a) := hcell 1 _ rfl
   have p2 : wr.cell? ⟨bb, off + j * 8 + 2, none⟩ = some (.int .u64 x.cl.b) := hcell 2 _ rfl
   have p3 : wr.cell? ⟨bb, off + j * 8 + 3, none⟩ = some (.int .u64 x.cl.c) := hcell 3 _ rfl
   have p4 : wr.cell? ⟨bb, off + j * 8 + 4, none⟩ = some (.int .u64 x.cl.d) := hcell 4 _ rfl
   have p5 : wr.cell? ⟨bb, off + j * 8 + 5, none⟩ = some (.slice ko kn kc) := hcell 5 _ rfl
   have p6 : wr.cell? ⟨bb, off + j * 8 + 6, none⟩ = some (.int .i64 x.mn) := hcell 6 _ rfl
   have p7 : wr.cell? ⟨bb, off + j * 8 + 7, none⟩ = some (.int .i64 x.mx) := hcell 7 _ rfl
   have hjl : j < ks.length := by rw [← HN.out]; exact hjt
   have HD : Hid (ks.drop j = x :: ks.drop (j + 1)) := by show _ = _; rw [drop_consP hjl, ← hxe]
   have HXO : Hid (okF D x = true) := by show _ = _; rw [hxe]; exact HOK.out _ (getD_memP hjl)
   obtain ⟨P, hP⟩ : ∃ P, P = wr.heap.size := ⟨_, rfl⟩
   obtain ⟨w1, hw1⟩ : ∃ W, W = wr.alloc (.cells #[.int .i64 x.k, .int .u64 x.cl.a, .int .u64 x.cl.b, .int .u64 x.cl.c, .int .u64 x.cl.d, .slice ko kn kc, .int .i64 x.mn, .int .i64 x.mx] 27) := ⟨_, rfl⟩
   have b1 : Below wr.heap.size wr w1 := by rw [hw1]; exact below1
   have x1 : w1.heap[P]? = some (.cells #[.int .i64 x.k, .int .u64 x.cl.a, .int .u64 x.cl.b, .int .u64 x.cl.c, .int .u64 x.cl.d, .slice ko kn kc, .int .i64 x.mn, .int .i64 x.mx] 27) := by rw [hw1, hP]; exact heap_alloc_new wr _
   have HBD1 := Lib.hid (HBD.out.next b1)
   have HNK1 := Lib.hid (HNK.out.trans (NK.of_below b1 (Nat.le_of_lt HBD.out.lt)))
   have HX1 := Lib.hid (rxR_steady d _ _ _ _ _ _ hx (b1.mono (Nat.le_of_lt HBD.out.lt)) (Nat.le_refl q))
   have HW1 := Lib.hid hw1
   have HPP := Lib.hid hP
   have HXX1 := Lib.hid x1
   have HF := Lib.hid (nf_full q b' w1 HBD1.out)
   have k0 := boxc x1 0 _ rfl
   have k1 := boxc x1 1 _ rfl
   have k2 := boxc x1 2 _ rfl
   have k3 := boxc x1 3 _ rfl
   have k4 := boxc x1 4 _ rfl
   have k5 := boxc x1 5 _ rfl
   have k6 := boxc x1 6 _ rfl
   have k7 := boxc x1 7 _ rfl
   clear hx hxe hcell hc8 hw1 hP b1 x1 hjl
   cases hfu : b'.full
   ·
    have h400 := nf.full_no hfu
    have HFU := Lib.hid hfu
    rw [hfu] at HF
    have HO := Lib.hid (HRR.out x _ b' w1 HX1.out HXO.out HBD1.out h400 HE'.out)
    have HLY := Lib.hid (nf.of_lay d x b' h400)
    clear hfu
    go_wp2_with fail
    rw [← HW1.out, ← HPP.out]
    (with_reducible refine HF.out.mono ?_)
    rintro e wF ⟨rfl, rfl⟩
    go_wp2_with fail
    (with_reducible refine HO.out.mono ?_)
    rintro e w2 ⟨rfl, hbd2, hnk2⟩
    have HBD2 := Lib.hid hbd2
    have HNK2 := Lib.hid (HNK1.out.trans hnk2)
    clear hbd2 hnk2 p0 p1 p2 p3 p4 p5 p6 p7 k0 k1 k2 k3 k4 k5 k6 k7
    have HFR := Lib.hid (nf_free q s b'.sz (nf.of d x b') w2 HBD2.out (by have h1 := HLY.out.es; have h2 := HLY.out.top; have h3 := HE'.out; omega))
    go_wp2_with fail
    (with_reducible refine HFR.out.mono ?_)
    rintro e w3 ⟨rfl, hbd3, hnk3⟩
    have HBD3 := Lib.hid hbd3
    have HNK3 := Lib.hid (HNK2.out.trans hnk3)
    have HFR2 : Hid (Calls Try.prog 37 #[.pointer (some ⟨q, 0, none⟩), .int .i64 ((b'.sz : Int) + 1), .int .i64 f] w3 fun e w' => e = .returned (.tuple #[]) ∧ BdAt q (((nf.of d x b').free s b'.sz).free (b'.sz + 1) f) w' ∧ NK q w3 w') := nf_free q (b'.sz + 1) f ((nf.of d x b').free s b'.sz) w3 HBD3.out (by
     have h1 := HLY.out.es; have h2 := HLY.out.top; have h3 := HE'.out
     simp only [nf.Bd.free, List.length_append, List.length_cons, List.length_nil]; omega)
    clear hbd3 hnk3
    go_wp2_with fail
    (with_reducible refine HFR2.out.mono ?_)
    rintro e w4 ⟨rfl, hbd4, hnk4⟩
    have HBD4 := Lib.hid hbd4
    have HNK4 := Lib.hid (HNK3.out.trans hnk4)
    have HT3 : Hid (nf.orF (nf.of d) s f (ks.drop (j + 1)) (((nf.of d x b').free s b'.sz).free (b'.sz + 1) f) = T) := by
     show _ = _
     rw [← HTT.out, HD.out, nf.orF, HFU.out]; rfl
    have hs3 : (((nf.of d x b').free s b'.sz).free (b'.sz + 1) f).sz ≤ 402 := HLY.out.top
    have HE3 : Hid ((((nf.of d x b').free s b'.sz).free (b'.sz + 1) f).es.length ≤ 2 * (((nf.of d x b').free s b'.sz).free (b'.sz + 1) f).sz) := by
     have h1 := HLY.out.es
     have h3 := HE'.out
     show _ ≤ 2 * (nf.of d x b').sz
     simp only [nf.Bd.free, List.length_append, List.length_cons, List.length_nil]
     omega
    clear hbd4 hnk4
    go_wp2
    go_roundw
    case rel => exact ⟨j + 1, _, by go_num, by omega, HT3, HBD4, HNK4, hs3, HE3⟩
    case measure => simp [intOf]; omega
   ·
    have HFU := Lib.hid hfu
    rw [hfu] at HF
    clear hfu
    go_wp2_with fail
    rw [← HW1.out, ← HPP.out]
    (with_reducible refine HF.out.mono ?_)
    rintro e wF ⟨rfl, rfl⟩
    clear k0 k1 k2 k3 k4 k5 k6 k7 p0 p1 p2 p3 p4 p5 p6 p7
    have HTE : Hid (T = b') := by
     show _ = _
     rw [← HTT.out, HD.out, nf.orF, HFU.out]; rfl
    have HR : Hid (BdAt q T _ ∧ NK q w _) := ⟨by rw [HTE.out]; exact HBD1.out, HNK1.out⟩
    go_wp2
    rw [Exit.noGoto_normal]
    go_end0
    exact ⟨rfl, HR.out⟩
  ·
   have hjn : n = j := by omega
   subst hjn
   have HBD1 := HBD
   have HNK1 := HNK
   have HTE : Hid (T = b') := by
    show _ = _
    rw [← HTT.out, HN.out, List.drop_length]; rfl
   have HR : Hid (BdAt q T _ ∧ NK q w _) := ⟨by rw [HTE.out]; exact HBD1.out, HNK1.out⟩
   go_wp2
   rw [Exit.noGoto_normal]
   go_end0
   exact ⟨rfl, HR.out⟩
end Go.Proofs.Ytmfgplbfojnkdaa
namespace Go.Proofs.Ytmfgplbfojnkdaa
open Go Go.RowKit Go.ChangeShapes cl rx
set_option maxHeartbeats 12800000 in
set_option maxRecDepth 100000 in
theorem nf_many_inf (q d D s f : Nat) (x y : Pat) (m : Nat) (kb ko kc : Nat) (b : nf.Bd) (w : World) (HR : Lays q d D) (hk : RowsAt 8 (rxR d) w q (.slice (some ⟨kb, ko, none⟩) 1 kc) [y]) (hok : okF D y = true) (hn21 : (m + 1) ≤ 21) (hb : BdAt q b w) (hs : b.sz ≤ 402) (he : b.es.length ≤ 2 * b.sz) :
  Calls Try.prog 40 #[.pointer (some ⟨q, 0, none⟩), .agg #[.int .i64 x.k, .int .u64 x.cl.a, .int .u64 x.cl.b, .int .u64 x.cl.c, .int .u64 x.cl.d, .slice (some ⟨kb, ko, none⟩) 1 kc, .int .i64 (m : Int), .int .i64 (-1)], .int .i64 s, .int .i64 f] w fun e w' => e = .returned (.tuple #[]) ∧ BdAt q ((nf.manyF (nf.of d y) m (-1) f (m + 1) 0 s b).2.free (nf.manyF (nf.of d y) m (-1) f (m + 1) 0 s b).1 f) w' ∧ NK q w w' := by
 obtain ⟨T, hT⟩ : ∃ T, T = nf.manyF (nf.of d y) m (-1) f (m + 1) 0 s b := ⟨_, rfl⟩
 rw [← hT]
 have HT : Hid (nf.manyF (nf.of d y) m (-1) f ((m + 1) - 0) 0 s b = T) := hT.symm
 have HK := Lib.hid hk
 have HOK := Lib.hid hok
 have HRR := Lib.hid HR
 have HE := Lib.hid he
 obtain ⟨P, hP⟩ : ∃ P, P = w.heap.size := ⟨_, rfl⟩
 obtain ⟨wB, hw1⟩ : ∃ W, W = w.alloc (.cells #[.int .i64 x.k, .int .u64 x.cl.a, .int .u64 x.cl.b, .int .u64 x.cl.c, .int .u64 x.cl.d, .slice (some ⟨kb, ko, none⟩) 1 kc, .int .i64 (m : Int), .int .i64 (-1)] 27) := ⟨_, rfl⟩
 have b1 : Below w.heap.size w wB := by rw [hw1]; exact below1
 have x1 : wB.heap[P]? = some (.cells #[.int .i64 x.k, .int .u64 x.cl.a, .int .u64 x.cl.b, .int .u64 x.cl.c, .int .u64 x.cl.d, .slice (some ⟨kb, ko, none⟩) 1 kc, .int .i64 (m : Int), .int .i64 (-1)] 27) := by rw [hw1, hP]; exact heap_alloc_new w _
 have HB := Lib.hid (hb.next b1)
 have HNK0 := Lib.hid (NK.of_below b1 (Nat.le_of_lt hb.lt))
 have HPQ : Hid (P ≠ q) := by show _ ≠ _; rw [hP]; have := hb.lt; omega
 have HW1 := Lib.hid hw1
 have HPP := Lib.hid hP
 have HX1 := Lib.hid x1
 clear hk hok HR hb hT he hw1 hP b1 x1
 go_enter Try.func40, Try.ntmps40
 go_wp2
 go_step3
 go_wp2
 go_step3
 go_wp2
 rw [← HW1.out, ← HPP.out]
 go_loopw [9, 23] (fun en i wr => ∃ (j e' : Nat) (b' : nf.Bd), en = .int .i64 e' ∧ i = .int .i64 j ∧ j ≤ (m + 1) ∧ Hid (nf.manyF (nf.of d y) m (-1) f ((m + 1) - j) j e' b' = T) ∧ Hid (BdAt q b' wr) ∧ Hid (NK q wB wr) ∧ b'.sz ≤ 402 ∧ Hid (b'.es.length ≤ 2 * b'.sz)) (fun _ i _ => (m + 1) - (intOf i).toNat)
 case atStart => exact ⟨0, s, b, rfl, rfl, by omega, HT.out, HB.out, NK.refl _ _, hs, HE.out⟩
 case round =>
  obtain ⟨j, e', b', rfl, rfl, hj, HTT, HBD1, HNK1, hs', HE'⟩ := hrel
  clear HB HE HT
  have HF := Lib.hid (nf_full q b' wr HBD1.out)
  by_cases hjt : j < (m + 1)
  ·
   have hjI : (j : Int) < (m : Int) + 1 := by omega
   have k0 : wr.cell? ⟨P, 5, none⟩ = some (.slice (some ⟨kb, ko, none⟩) 1 kc) := boxc (HNK1.out.box HX1.out HPQ.out (by decide)) 5 _ rfl
   obtain ⟨bb, off, c, he', hbq, hc8, hx, hcell⟩ := RowsAt.get (HK.out.below (rxR_steady d) (HNK0.out.below.trans HNK1.out.below) (Nat.le_refl _)) (j := 0) rfl (by omega) default
   cases he'
   have hx : rxR d wr q c y := hx
   obtain ⟨zo, zn, zc, rfl⟩ := rx_form hx
   have p0 : wr.cell? ⟨kb, ko, none⟩ = some (.int .i64 y.k) := by have := hcell 0 _ rfl; simpa using this
   have p1 : wr.cell? ⟨kb, ko + 1, none⟩ = some (.int .u64 y.cl.a) := by have := hcell 1 _ rfl; simpa using this
   have p2 : wr.cell? ⟨kb, ko + 2, none⟩ = some (.int .u64 y.cl.b) := by have := hcell 2 _ rfl; simpa using this
   have p3 : wr.cell? ⟨kb, ko + 3, none⟩ = some (.int .u64 y.cl.c) := by have := hcell 3 _ rfl; simpa using this
   have p4 : wr.cell? ⟨kb, ko + 4, none⟩ = some (.int .u64 y.cl.d) := by have := hcell 4 _ rfl; simpa using this
   have p5 : wr.cell? ⟨kb, ko + 5, none⟩ = some (.slice zo zn zc) := by have := hcell 5 _ rfl; simpa using this
   have p6 : wr.cell? ⟨kb, ko + 6, none⟩ = some (.int .i64 y.mn) := by have := hcell 6 _ rfl; simpa using this
   have p7 : wr.cell? ⟨kb, ko + 7, none⟩ = some (.int .i64 y.mx) := by have := hcell 7 _ rfl; simpa using this
   cases hfu : b'.full
   ·
    have h400 := nf.full_no hfu
    have HFU := Lib.hid hfu
    rw [hfu] at HF
    have HO := Lib.hid (HRR.out y _ b' wr hx HOK.out HBD1.out h400 HE'.out)
    have HLY := Lib.hid (nf.of_lay d y b' h400)
    clear hfu hx hcell
    go_wp2_with fail
    (with_reducible refine HF.out.mono ?_)
    rintro e wF ⟨rfl, rfl⟩
    go_wp2_with fail
    (with_reducible refine HO.out.mono ?_)
    rintro e w2 ⟨rfl, hbd2, hnk2⟩
    have HBD2 := Lib.hid hbd2
    have HNK2 := Lib.hid (HNK1.out.trans hnk2)
    clear hbd2 hnk2 p0 p1 p2 p3 p4 p5 p6 p7 k0 HO
    have HC2 : Hid (Calls Try.prog 37 #[.pointer (some ⟨q, 0, none⟩), .int .i64 (e' : Int), .int .i64 (b'.sz : Int)] w2 fun e w' => e = .returned (.tuple #[]) ∧ BdAt q (((nf.of d y b')).free e' b'.sz) w' ∧ NK q w2 w') := nf_free q e' b'.sz ((nf.of d y b')) w2 HBD2.out (by
     have h1 := HLY.out.es; have h2 := HLY.out.top; have h3 := HE'.out
     try simp only [nf.Bd.free, List.length_append, List.length_cons, List.length_nil]
     omega)
    go_wp2_with fail
    (with_reducible refine HC2.out.mono ?_)
    rintro e w3 ⟨rfl, hbd, hnk⟩
    have HBD3 := Lib.hid hbd
    have HNK3 := Lib.hid (HNK2.out.trans hnk)
    have k6 := boxc (HNK3.out.box HX1.out HPQ.out (by decide)) 6 _ rfl
    have k7 := boxc (HNK3.out.box HX1.out HPQ.out (by decide)) 7 _ rfl
    clear hbd hnk HC2
    by_cases hmj : m ≤ j
    ·
     have hmI : (m : Int) ≤ (j : Int) := by omega
     have HC3 : Hid (Calls Try.prog 37 #[.pointer (some ⟨q, 0, none⟩), .int .i64 (e' : Int), .int .i64 (f : Int)] w3 fun e w' => e = .returned (.tuple #[]) ∧ BdAt q (((nf.of d y b').free e' b'.sz).free e' f) w' ∧ NK q w3 w') := nf_free q e' f ((nf.of d y b').free e' b'.sz) w3 HBD3.out (by
      have h1 := HLY.out.es; have h2 := HLY.out.top; have h3 := HE'.out
      try simp only [nf.Bd.free, List.length_append, List.length_cons, List.length_nil]
      omega)
     go_wp2_with fail
     (with_reducible refine HC3.out.mono ?_)
     rintro e w4 ⟨rfl, hbd, hnk⟩
     have HBD4 := Lib.hid hbd
     have HNK4 := Lib.hid (HNK3.out.trans hnk)
     have k6 := boxc (HNK4.out.box HX1.out HPQ.out (by decide)) 6 _ rfl
     have k7 := boxc (HNK4.out.box HX1.out HPQ.out (by decide)) 7 _ rfl
     clear hbd hnk HC3
     have hl : j = m := by omega
     have hlI : ((j : Int) == (m : Int)) = true := by simp [hl]
     clear hl
     have HC4 : Hid (Calls Try.prog 37 #[.pointer (some ⟨q, 0, none⟩), .int .i64 ((b'.sz : Int) + 1), .int .i64 (b'.sz : Int)] w4 fun e w' => e = .returned (.tuple #[]) ∧ BdAt q ((((nf.of d y b').free e' b'.sz).free e' f).free (b'.sz + 1) b'.sz) w' ∧ NK q w4 w') := nf_free q (b'.sz + 1) b'.sz (((nf.of d y b').free e' b'.sz).free e' f) w4 HBD4.out (by
      have h1 := HLY.out.es; have h2 := HLY.out.top; have h3 := HE'.out
      try simp only [nf.Bd.free, List.length_append, List.length_cons, List.length_nil]
      omega)
     go_wp2_with fail
     (with_reducible refine HC4.out.mono ?_)
     rintro e w5 ⟨rfl, hbd, hnk⟩
     have HBD5 := Lib.hid hbd
     have HNK5 := Lib.hid (HNK4.out.trans hnk)
     have k6 := boxc (HNK5.out.box HX1.out HPQ.out (by decide)) 6 _ rfl
     have k7 := boxc (HNK5.out.box HX1.out HPQ.out (by decide)) 7 _ rfl
     clear hbd hnk HC4
     have HT3 : Hid (nf.manyF (nf.of d y) m (-1) f ((m + 1) - (j + 1)) (j + 1) (b'.sz + 1) ((((nf.of d y b').free e' b'.sz).free e' f).free (b'.sz + 1) b'.sz) = T) := by
      show _ = _
      rw [← HTT.out, show (m + 1) - j = ((m + 1) - (j + 1)) + 1 by omega, nf.manyF, HFU.out]
      have ho : nf.oneF (nf.of d y) m (-1) f ((m + 1) - (j + 1)) j e' b' = (((nf.of d y b').free e' b'.sz).free e' f).free (b'.sz + 1) b'.sz := by
       unfold nf.oneF
       simp only
       rw [if_pos ⟨by trivial, by omega⟩, if_pos (by omega)]
      rw [if_neg (by decide), ho]
     have hs3 : ((((nf.of d y b').free e' b'.sz).free e' f).free (b'.sz + 1) b'.sz).sz ≤ 402 := HLY.out.top
     have HE3 : Hid (((((nf.of d y b').free e' b'.sz).free e' f).free (b'.sz + 1) b'.sz).es.length ≤ 2 * ((((nf.of d y b').free e' b'.sz).free e' f).free (b'.sz + 1) b'.sz).sz) := by
      have h1 := HLY.out.es
      have h3 := HE'.out
      show _ ≤ 2 * (nf.of d y b').sz
      simp only [nf.Bd.free, List.length_append, List.length_cons, List.length_nil]
      omega
     go_wp2
     go_roundw
     case rel => exact ⟨j + 1, b'.sz + 1, _, rfl, by go_num, by omega, HT3, HBD5, HNK5, hs3, HE3⟩
     case measure => simp [intOf]; omega
    ·
     have hmI : ¬ (m : Int) ≤ (j : Int) := by omega
     have hmJ : (j : Int) < (m : Int) := by omega
     have hlI : ((j : Int) == (m : Int)) = false := by simp; omega
     have HT3 : Hid (nf.manyF (nf.of d y) m (-1) f ((m + 1) - (j + 1)) (j + 1) (b'.sz + 1) ((nf.of d y b').free e' b'.sz) = T) := by
      show _ = _
      rw [← HTT.out, show (m + 1) - j = ((m + 1) - (j + 1)) + 1 by omega, nf.manyF, HFU.out]
      have ho : nf.oneF (nf.of d y) m (-1) f ((m + 1) - (j + 1)) j e' b' = (nf.of d y b').free e' b'.sz := by
       unfold nf.oneF
       simp only
       rw [if_neg (fun h => by have := h.2; omega), if_neg (by omega)]
      rw [if_neg (by decide), ho]
     have hs3 : ((nf.of d y b').free e' b'.sz).sz ≤ 402 := HLY.out.top
     have HE3 : Hid (((nf.of d y b').free e' b'.sz).es.length ≤ 2 * ((nf.of d y b').free e' b'.sz).sz) := by
      have h1 := HLY.out.es
      have h3 := HE'.out
      show _ ≤ 2 * (nf.of d y b').sz
      simp only [nf.Bd.free, List.length_append, List.length_cons, List.length_nil]
      omega
     go_wp2
     go_roundw
     case rel => exact ⟨j + 1, b'.sz + 1, _, rfl, by go_num, by omega, HT3, HBD3, HNK3, hs3, HE3⟩
     case measure => simp [intOf]; omega
   ·
    have HFU := Lib.hid hfu
    rw [hfu] at HF
    have HTE : Hid (T = (e', b')) := by
     show _ = _
     rw [← HTT.out, show (m + 1) - j = ((m + 1) - (j + 1)) + 1 by omega, nf.manyF, HFU.out]; rfl
    clear hfu k0 p0 p1 p2 p3 p4 p5 p6 p7 hx hcell
    go_wp2_with fail
    (with_reducible refine HF.out.mono ?_)
    rintro e wF ⟨rfl, rfl⟩
    have HFR := Lib.hid (nf_free q e' f b' _ HBD1.out (by have h3 := HE'.out; omega))
    go_wp2_with fail
    (with_reducible refine HFR.out.mono ?_)
    rintro e w3 ⟨rfl, hbd3, hnk3⟩
    have HR : Hid (BdAt q (T.2.free T.1 f) w3 ∧ NK q w w3) := by
     show _ ∧ _
     rw [HTE.out]
     exact ⟨hbd3, HNK0.out.trans (HNK1.out.trans hnk3)⟩
    clear hbd3 hnk3
    go_wp2
    rw [Exit.noGoto_normal]
    go_end0
    exact ⟨rfl, HR.out⟩
  ·
   have HTE : Hid (T = (e', b')) := by
    show _ = _
    rw [← HTT.out, show (m + 1) - j = 0 by omega]; rfl
   have hjI : ¬ (j : Int) < (m : Int) + 1 := by omega
   have hjJ : (m : Int) + 1 ≤ (j : Int) := by omega
   have HFR := Lib.hid (nf_free q e' f b' _ HBD1.out (by have h3 := HE'.out; omega))
   go_wp2_with fail
   (with_reducible refine HFR.out.mono ?_)
   rintro e w3 ⟨rfl, hbd3, hnk3⟩
   have HR : Hid (BdAt q (T.2.free T.1 f) w3 ∧ NK q w w3) := by
    show _ ∧ _
    rw [HTE.out]
    exact ⟨hbd3, HNK0.out.trans (HNK1.out.trans hnk3)⟩
   clear hbd3 hnk3
   go_wp2
   rw [Exit.noGoto_normal]
   go_end0
   exact ⟨rfl, HR.out⟩
set_option maxHeartbeats 12800000 in
set_option maxRecDepth 100000 in
theorem nf_many_to (q d D s f : Nat) (x y : Pat) (m n : Nat) (kb ko kc : Nat) (b : nf.Bd) (w : World) (HR : Lays q d D) (hk : RowsAt 8 (rxR d) w q (.slice (some ⟨kb, ko, none⟩) 1 kc) [y]) (hok : okF D y = true) (hn21 : n ≤ 21) (hb : BdAt q b w) (hs : b.sz ≤ 402) (he : b.es.length ≤ 2 * b.sz) :
  Calls Try.prog 40 #[.pointer (some ⟨q, 0, none⟩), .agg #[.int .i64 x.k, .int .u64 x.cl.a, .int .u64 x.cl.b, .int .u64 x.cl.c, .int .u64 x.cl.d, .slice (some ⟨kb, ko, none⟩) 1 kc, .int .i64 (m : Int), .int .i64 (n : Int)], .int .i64 s, .int .i64 f] w fun e w' => e = .returned (.tuple #[]) ∧ BdAt q ((nf.manyF (nf.of d y) m (n : Int) f n 0 s b).2.free (nf.manyF (nf.of d y) m (n : Int) f n 0 s b).1 f) w' ∧ NK q w w' := by
 obtain ⟨T, hT⟩ : ∃ T, T = nf.manyF (nf.of d y) m (n : Int) f n 0 s b := ⟨_, rfl⟩
 rw [← hT]
 have HT : Hid (nf.manyF (nf.of d y) m (n : Int) f (n - 0) 0 s b = T) := hT.symm
 have HK := Lib.hid hk
 have HOK := Lib.hid hok
 have HRR := Lib.hid HR
 have HE := Lib.hid he
 obtain ⟨P, hP⟩ : ∃ P, P = w.heap.size := ⟨_, rfl⟩
 obtain ⟨wB, hw1⟩ : ∃ W, W = w.alloc (.cells #[.int .i64 x.k, .int .u64 x.cl.a, .int .u64 x.cl.b, .int .u64 x.cl.c, .int .u64 x.cl.d, .slice (some ⟨kb, ko, none⟩) 1 kc, .int .i64 (m : Int), .int .i64 (n : Int)] 27) := ⟨_, rfl⟩
 have b1 : Below w.heap.size w wB := by rw [hw1]; exact below1
 have x1 : wB.heap[P]? = some (.cells #[.int .i64 x.k, .int .u64 x.cl.a, .int .u64 x.cl.b, .int .u64 x.cl.c, .int .u64 x.cl.d, .slice (some ⟨kb, ko, none⟩) 1 kc, .int .i64 (m : Int), .int .i64 (n : Int)] 27) := by rw [hw1, hP]; exact heap_alloc_new w _
 have HB := Lib.hid (hb.next b1)
 have HNK0 := Lib.hid (NK.of_below b1 (Nat.le_of_lt hb.lt))
 have HPQ : Hid (P ≠ q) := by show _ ≠ _; rw [hP]; have := hb.lt; omega
 have HW1 := Lib.hid hw1
 have HPP := Lib.hid hP
 have HX1 := Lib.hid x1
 have hmxb : ((n : Int) == -1) = false := by simp
 have hmx : ¬ (n : Int) = -1 := by omega
 clear hk hok HR hb hT he hw1 hP b1 x1
 go_enter Try.func40, Try.ntmps40
 go_wp2
 go_step3
 go_wp2
 go_step3
 go_wp2
 rw [← HW1.out, ← HPP.out]
 go_loopw [9, 23] (fun en i wr => ∃ (j e' : Nat) (b' : nf.Bd), en = .int .i64 e' ∧ i = .int .i64 j ∧ j ≤ n ∧ Hid (nf.manyF (nf.of d y) m (n : Int) f (n - j) j e' b' = T) ∧ Hid (BdAt q b' wr) ∧ Hid (NK q wB wr) ∧ b'.sz ≤ 402 ∧ Hid (b'.es.length ≤ 2 * b'.sz)) (fun _ i _ => n - (intOf i).toNat)
 case atStart => exact ⟨0, s, b, rfl, rfl, by omega, HT.out, HB.out, NK.refl _ _, hs, HE.out⟩
 case round =>
  obtain ⟨j, e', b', rfl, rfl, hj, HTT, HBD1, HNK1, hs', HE'⟩ := hrel
  clear HB HE HT
  have HF := Lib.hid (nf_full q b' wr HBD1.out)
  by_cases hjt : j < n
  ·
   have hjI : (j : Int) < (n : Int) := by omega
   have k0 : wr.cell? ⟨P, 5, none⟩ = some (.slice (some ⟨kb, ko, none⟩) 1 kc) := boxc (HNK1.out.box HX1.out HPQ.out (by decide)) 5 _ rfl
   obtain ⟨bb, off, c, he', hbq, hc8, hx, hcell⟩ := RowsAt.get (HK.out.below (rxR_steady d) (HNK0.out.below.trans HNK1.out.below) (Nat.le_refl _)) (j := 0) rfl (by omega) default
   cases he'
   have hx : rxR d wr q c y := hx
   obtain ⟨zo, zn, zc, rfl⟩ := rx_form hx
   have p0 : wr.cell? ⟨kb, ko, none⟩ = some (.int .i64 y.k) := by have := hcell 0 _ rfl; simpa using this
   have p1 : wr.cell? ⟨kb, ko + 1, none⟩ = some (.int .u64 y.cl.a) := by have := hcell 1 _ rfl; simpa using this
   have p2 : wr.cell? ⟨kb, ko + 2, none⟩ = some (.int .u64 y.cl.b) := by have := hcell 2 _ rfl; simpa using this
   have p3 : wr.cell? ⟨kb, ko + 3, none⟩ = some (.int .u64 y.cl.c) := by have := hcell 3 _ rfl; simpa using this
   have p4 : wr.cell? ⟨kb, ko + 4, none⟩ = some (.int .u64 y.cl.d) := by have := hcell 4 _ rfl; simpa using this
   have p5 : wr.cell? ⟨kb, ko + 5, none⟩ = some (.slice zo zn zc) := by have := hcell 5 _ rfl; simpa using this
   have p6 : wr.cell? ⟨kb, ko + 6, none⟩ = some (.int .i64 y.mn) := by have := hcell 6 _ rfl; simpa using this
   have p7 : wr.cell? ⟨kb, ko + 7, none⟩ = some (.int .i64 y.mx) := by have := hcell 7 _ rfl; simpa using this
   cases hfu : b'.full
   ·
    have h400 := nf.full_no hfu
    have HFU := Lib.hid hfu
    rw [hfu] at HF
    have HO := Lib.hid (HRR.out y _ b' wr hx HOK.out HBD1.out h400 HE'.out)
    have HLY := Lib.hid (nf.of_lay d y b' h400)
    clear hfu hx hcell
    go_wp2_with fail
    (with_reducible refine HF.out.mono ?_)
    rintro e wF ⟨rfl, rfl⟩
    go_wp2_with fail
    (with_reducible refine HO.out.mono ?_)
    rintro e w2 ⟨rfl, hbd2, hnk2⟩
    have HBD2 := Lib.hid hbd2
    have HNK2 := Lib.hid (HNK1.out.trans hnk2)
    clear hbd2 hnk2 p0 p1 p2 p3 p4 p5 p6 p7 k0 HO
    have HC2 : Hid (Calls Try.prog 37 #[.pointer (some ⟨q, 0, none⟩), .int .i64 (e' : Int), .int .i64 (b'.sz : Int)] w2 fun e w' => e = .returned (.tuple #[]) ∧ BdAt q (((nf.of d y b')).free e' b'.sz) w' ∧ NK q w2 w') := nf_free q e' b'.sz ((nf.of d y b')) w2 HBD2.out (by
     have h1 := HLY.out.es; have h2 := HLY.out.top; have h3 := HE'.out
     try simp only [nf.Bd.free, List.length_append, List.length_cons, List.length_nil]
     omega)
    go_wp2_with fail
    (with_reducible refine HC2.out.mono ?_)
    rintro e w3 ⟨rfl, hbd, hnk⟩
    have HBD3 := Lib.hid hbd
    have HNK3 := Lib.hid (HNK2.out.trans hnk)
    have k6 := boxc (HNK3.out.box HX1.out HPQ.out (by decide)) 6 _ rfl
    have k7 := boxc (HNK3.out.box HX1.out HPQ.out (by decide)) 7 _ rfl
    clear hbd hnk HC2
    by_cases hmj : m ≤ j
    ·
     have hmI : (m : Int) ≤ (j : Int) := by omega
     have HC3 : Hid (Calls Try.prog 37 #[.pointer (some ⟨q, 0, none⟩), .int .i64 (e' : Int), .int .i64 (f : Int)] w3 fun e w' => e = .returned (.tuple #[]) ∧ BdAt q (((nf.of d y b').free e' b'.sz).free e' f) w' ∧ NK q w3 w') := nf_free q e' f ((nf.of d y b').free e' b'.sz) w3 HBD3.out (by
      have h1 := HLY.out.es; have h2 := HLY.out.top; have h3 := HE'.out
      try simp only [nf.Bd.free, List.length_append, List.length_cons, List.length_nil]
      omega)
     go_wp2_with fail
     (with_reducible refine HC3.out.mono ?_)
     rintro e w4 ⟨rfl, hbd, hnk⟩
     have HBD4 := Lib.hid hbd
     have HNK4 := Lib.hid (HNK3.out.trans hnk)
     have k6 := boxc (HNK4.out.box HX1.out HPQ.out (by decide)) 6 _ rfl
     have k7 := boxc (HNK4.out.box HX1.out HPQ.out (by decide)) 7 _ rfl
     clear hbd hnk HC3
     have HT3 : Hid (nf.manyF (nf.of d y) m (n : Int) f (n - (j + 1)) (j + 1) (b'.sz + 1) (((nf.of d y b').free e' b'.sz).free e' f) = T) := by
      show _ = _
      rw [← HTT.out, show n - j = (n - (j + 1)) + 1 by omega, nf.manyF, HFU.out]
      have ho : nf.oneF (nf.of d y) m (n : Int) f (n - (j + 1)) j e' b' = ((nf.of d y b').free e' b'.sz).free e' f := by
       unfold nf.oneF
       simp only
       rw [if_neg (fun h => by have := h.1; omega), if_pos (by omega)]
      rw [if_neg (by decide), ho]
     have hs3 : (((nf.of d y b').free e' b'.sz).free e' f).sz ≤ 402 := HLY.out.top
     have HE3 : Hid ((((nf.of d y b').free e' b'.sz).free e' f).es.length ≤ 2 * (((nf.of d y b').free e' b'.sz).free e' f).sz) := by
      have h1 := HLY.out.es
      have h3 := HE'.out
      show _ ≤ 2 * (nf.of d y b').sz
      simp only [nf.Bd.free, List.length_append, List.length_cons, List.length_nil]
      omega
     go_wp2
     go_roundw
     case rel => exact ⟨j + 1, b'.sz + 1, _, rfl, by go_num, by omega, HT3, HBD4, HNK4, hs3, HE3⟩
     case measure => simp [intOf]; omega
    ·
     have hmI : ¬ (m : Int) ≤ (j : Int) := by omega
     have hmJ : (j : Int) < (m : Int) := by omega
     have HT3 : Hid (nf.manyF (nf.of d y) m (n : Int) f (n - (j + 1)) (j + 1) (b'.sz + 1) ((nf.of d y b').free e' b'.sz) = T) := by
      show _ = _
      rw [← HTT.out, show n - j = (n - (j + 1)) + 1 by omega, nf.manyF, HFU.out]
      have ho : nf.oneF (nf.of d y) m (n : Int) f (n - (j + 1)) j e' b' = (nf.of d y b').free e' b'.sz := by
       unfold nf.oneF
       simp only
       rw [if_neg (fun h => by have := h.1; omega), if_neg (by omega)]
      rw [if_neg (by decide), ho]
     have hs3 : ((nf.of d y b').free e' b'.sz).sz ≤ 402 := HLY.out.top
     have HE3 : Hid (((nf.of d y b').free e' b'.sz).es.length ≤ 2 * ((nf.of d y b').free e' b'.sz).sz) := by
      have h1 := HLY.out.es
      have h3 := HE'.out
      show _ ≤ 2 * (nf.of d y b').sz
      simp only [nf.Bd.free, List.length_append, List.length_cons, List.length_nil]
      omega
     go_wp2
     go_roundw
     case rel => exact ⟨j + 1, b'.sz + 1, _, rfl, by go_num, by omega, HT3, HBD3, HNK3, hs3, HE3⟩
     case measure => simp [intOf]; omega
   ·
    have HFU := Lib.hid hfu
    rw [hfu] at HF
    have HTE : Hid (T = (e', b')) := by
     show _ = _
     rw [← HTT.out, show n - j = (n - (j + 1)) + 1 by omega, nf.manyF, HFU.out]; rfl
    clear hfu k0 p0 p1 p2 p3 p4 p5 p6 p7 hx hcell
    go_wp2_with fail
    (with_reducible refine HF.out.mono ?_)
    rintro e wF ⟨rfl, rfl⟩
    have HFR := Lib.hid (nf_free q e' f b' _ HBD1.out (by have h3 := HE'.out; omega))
    go_wp2_with fail
    (with_reducible refine HFR.out.mono ?_)
    rintro e w3 ⟨rfl, hbd3, hnk3⟩
    have HR : Hid (BdAt q (T.2.free T.1 f) w3 ∧ NK q w w3) := by
     show _ ∧ _
     rw [HTE.out]
     exact ⟨hbd3, HNK0.out.trans (HNK1.out.trans hnk3)⟩
    clear hbd3 hnk3
    go_wp2
    rw [Exit.noGoto_normal]
    go_end0
    exact ⟨rfl, HR.out⟩
  ·
   have HTE : Hid (T = (e', b')) := by
    show _ = _
    rw [← HTT.out, show n - j = 0 by omega]; rfl
   have hjI : ¬ (j : Int) < (n : Int) := by omega
   have hjJ : (n : Int) ≤ (j : Int) := by omega
   have HFR := Lib.hid (nf_free q e' f b' _ HBD1.out (by have h3 := HE'.out; omega))
   go_wp2_with fail
   (with_reducible refine HFR.out.mono ?_)
   rintro e w3 ⟨rfl, hbd3, hnk3⟩
   have HR : Hid (BdAt q (T.2.free T.1 f) w3 ∧ NK q w w3) := by
    show _ ∧ _
    rw [HTE.out]
    exact ⟨hbd3, HNK0.out.trans (HNK1.out.trans hnk3)⟩
   clear hbd3 hnk3
   go_wp2
   rw [Exit.noGoto_normal]
   go_end0
   exact ⟨rfl, HR.out⟩
end Go.Proofs.Ytmfgplbfojnkdaa
