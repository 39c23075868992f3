/- codec.Read by its contract: the walk. -/
import Derived.Test.YtghbkieflifegaaCdRead
namespace Go.Proofs.Ytghbkieflifegaa
open Go.RowKit Go.ChangeShapes cl
set_option maxHeartbeats 12800000 in
set_option maxRecDepth 100000 in
theorem read_any (s : ByteArray) (w : World) (hs : s.size ≤ 1099511627776) : Calls Try.prog 12 #[.string s] w (ReadAns (cd.read (kit.bytes s)) w) := by
  have hmf : ∀ (fn : Fn) (first cap : Array Value) (w : World), (Instr.makeFunc fn first cap).run Try.prog w = .ok (.func fn first cap) w := fun _ _ _ _ => rfl
  have HB0 : Hid (Bx w (w.heap.size + 1 + 1) s 0 (w.heap.size + 1) 31 #[.int .i64 0] w.heap.size 33 #[.int .i64 0, .int .i64 0, .int .i64 0, .int .i64 0, .int .i64 0, .slice none 0 0, .slice none 0 0, .slice none 0 0, .slice none 0 0, .slice none 0 0, .slice none 0 0, .int .i64 0, .string ⟨#[]⟩, .string ⟨#[]⟩, .slice none 0 0, .int .i64 0] (((w.alloc (.cells #[.int .i64 0, .int .i64 0, .int .i64 0, .int .i64 0, .int .i64 0, .slice none 0 0, .slice none 0 0, .slice none 0 0, .slice none 0 0, .slice none 0 0, .slice none 0 0, .int .i64 0, .string ⟨#[]⟩, .string ⟨#[]⟩, .slice none 0 0, .int .i64 0] 33)).alloc (.cells #[.int .i64 0] 31)).alloc (.cells #[.string s, .int .i64 0] 69))) := by
    have hs0 := (Bx.start3 w s (.cells #[.int .i64 0, .int .i64 0, .int .i64 0, .int .i64 0, .int .i64 0, .slice none 0 0, .slice none 0 0, .slice none 0 0, .slice none 0 0, .slice none 0 0, .slice none 0 0, .int .i64 0, .string ⟨#[]⟩, .string ⟨#[]⟩, .slice none 0 0, .int .i64 0] 33) (.cells #[.int .i64 0] 31))
    exact ⟨hs0.1, hs0.2.1, hs0.2.2.1, hs0.2.2.2, by omega, by omega, by omega, by omega, by omega⟩
  have HN0 := Lib.hid (number_any (w.heap.size + 1 + 1) s 0 _ HB0.out.rd hs)
  go_enter_defers Try.func12, Try.ntmps12
  go_wp2_with fail
  (with_reducible refine HN0.out.mono ?_)
  rintro e w1 h
  rcases h.cases with ⟨x0, a1, v, hr0, rfl, rfl, ha1, hd, hg⟩ | ⟨c, hr0, hc, rfl, hg⟩
  · have hB := HB0.out.call hg hd
    have HR0 := Lib.hid hr0
    have HB1 := Lib.hid hB
    have HN1 := Lib.hid (number_any (w.heap.size + 1 + 1) s a1 _ HB1.out.rd hs)
    clear h hd hg hB hr0 HN0
    go_wp2_with fail
    (with_reducible refine HN1.out.mono ?_)
    rintro e w2 h
    rcases h.cases with ⟨x1, a2, v, hr1, rfl, rfl, ha2, hd, hg⟩ | ⟨c, hr1, hc, rfl, hg⟩
    · have hB := HB1.out.call hg hd
      have HR1 := Lib.hid hr1
      have HB2 := Lib.hid hB
      have HN2 := Lib.hid (number_any (w.heap.size + 1 + 1) s a2 _ HB2.out.rd hs)
      clear h hd hg hB hr1 HN1
      go_wp2_with fail
      (with_reducible refine HN2.out.mono ?_)
      rintro e w3 h
      rcases h.cases with ⟨x2, a3, v, hr2, rfl, rfl, ha3, hd, hg⟩ | ⟨c, hr2, hc, rfl, hg⟩
      · have hB := HB2.out.call hg hd
        have HR2 := Lib.hid hr2
        have HB3 := Lib.hid hB
        have HN3 := Lib.hid (number_any (w.heap.size + 1 + 1) s a3 _ HB3.out.rd hs)
        clear h hd hg hB hr2 HN2
        go_wp2_with fail
        (with_reducible refine HN3.out.mono ?_)
        rintro e w4 h
        rcases h.cases with ⟨x3, a4, v, hr3, rfl, rfl, ha4, hd, hg⟩ | ⟨c, hr3, hc, rfl, hg⟩
        · have hB := HB3.out.call hg hd
          have HR3 := Lib.hid hr3
          have HB4 := Lib.hid hB
          have HN4 := Lib.hid (number_any (w.heap.size + 1 + 1) s a4 _ HB4.out.rd hs)
          clear h hd hg hB hr3 HN3
          go_wp2_with fail
          (with_reducible refine HN4.out.mono ?_)
          rintro e w5 h
          rcases h.cases with ⟨x4, a5, v, hr4, rfl, rfl, ha5, hd, hg⟩ | ⟨c, hr4, hc, rfl, hg⟩
          · have hB := HB4.out.call hg hd
            have HR4 := Lib.hid hr4
            have c0 := boxc hB.x1 0 _ rfl
            have f0 := boxf hB.x1 0
            have c1 := boxc hB.x1 1 _ rfl
            have f1 := boxf hB.x1 1
            have c2 := boxc hB.x1 2 _ rfl
            have f2 := boxf hB.x1 2
            have c3 := boxc hB.x1 3 _ rfl
            have f3 := boxf hB.x1 3
            have c4 := boxc hB.x1 4 _ rfl
            have f4 := boxf hB.x1 4
            have HB5 := Lib.hid (((((hB.setl 0 (.int .i64 (x0 : Int))).setl 1 (.int .i64 (x1 : Int))).setl 2 (.int .i64 (x2 : Int))).setl 3 (.int .i64 (x3 : Int))).setl 4 (.int .i64 (x4 : Int)))
            have HN5 := Lib.hid (rdelta_any (w.heap.size + 1 + 1) s a5 _ HB5.out.rd hs)
            clear h hd hg hB hr4 HN4
            go_wp2_with fail
            (with_reducible refine HN5.out.mono ?_)
            rintro e w6 h
            rcases h.cases with ⟨x5, a6, v, hr5, rfl, ⟨oe, me, ke, oa, ma, ka, ov, mv, kv, oc, mc, kc, rfl, hE1, hE2, hE3, hE4⟩, ha6, hd, hg⟩ | ⟨c, hr5, hc, rfl, hg⟩
            · have hB := HB5.out.call hg hd
              have Oe := Lib.hid hE1
              have Oa := Lib.hid hE2
              have Ov := Lib.hid hE3
              have Oc := Lib.hid hE4
              clear hE1 hE2 hE3 hE4
              have HR5 := Lib.hid hr5
              have c5 := boxc hB.x1 5 _ rfl
              have f5 := boxf hB.x1 5
              have c6 := boxc hB.x1 6 _ rfl
              have f6 := boxf hB.x1 6
              have c7 := boxc hB.x1 7 _ rfl
              have f7 := boxf hB.x1 7
              have c8 := boxc hB.x1 8 _ rfl
              have f8 := boxf hB.x1 8
              have HB6 := Lib.hid ((((hB.setl 5 (.slice oe me ke)).setl 6 (.slice oa ma ka)).setl 7 (.slice ov mv kv)).setl 8 (.slice oc mc kc))
              replace Oe := Lib.hid (Oe.out.kt (entO_pst (by decide)) (by decide) (((((hB.ks 5 (.slice oe me ke)).trans ((hB.setl 5 (.slice oe me ke)).ks 6 (.slice oa ma ka))).trans (((hB.setl 5 (.slice oe me ke)).setl 6 (.slice oa ma ka)).ks 7 (.slice ov mv kv))).trans ((((hB.setl 5 (.slice oe me ke)).setl 6 (.slice oa ma ka)).setl 7 (.slice ov mv kv)).ks 8 (.slice oc mc kc)))))
              replace Oa := Lib.hid (Oa.out.kt (dotO_pst _) (by decide) (((((hB.ks 5 (.slice oe me ke)).trans ((hB.setl 5 (.slice oe me ke)).ks 6 (.slice oa ma ka))).trans (((hB.setl 5 (.slice oe me ke)).setl 6 (.slice oa ma ka)).ks 7 (.slice ov mv kv))).trans ((((hB.setl 5 (.slice oe me ke)).setl 6 (.slice oa ma ka)).setl 7 (.slice ov mv kv)).ks 8 (.slice oc mc kc)))))
              replace Ov := Lib.hid (Ov.out.kt (dotO_pst _) (by decide) (((((hB.ks 5 (.slice oe me ke)).trans ((hB.setl 5 (.slice oe me ke)).ks 6 (.slice oa ma ka))).trans (((hB.setl 5 (.slice oe me ke)).setl 6 (.slice oa ma ka)).ks 7 (.slice ov mv kv))).trans ((((hB.setl 5 (.slice oe me ke)).setl 6 (.slice oa ma ka)).setl 7 (.slice ov mv kv)).ks 8 (.slice oc mc kc)))))
              replace Oc := Lib.hid (Oc.out.kt (dotO_pst _) (by decide) (((((hB.ks 5 (.slice oe me ke)).trans ((hB.setl 5 (.slice oe me ke)).ks 6 (.slice oa ma ka))).trans (((hB.setl 5 (.slice oe me ke)).setl 6 (.slice oa ma ka)).ks 7 (.slice ov mv kv))).trans ((((hB.setl 5 (.slice oe me ke)).setl 6 (.slice oa ma ka)).setl 7 (.slice ov mv kv)).ks 8 (.slice oc mc kc)))))
              have HN6 := Lib.hid (rcontext_any (w.heap.size + 1 + 1) s a6 _ HB6.out.rd hs)
              clear h hd hg hB hr5 HN5
              go_wp2_with fail
              (with_reducible refine HN6.out.mono ?_)
              rintro e w7 h
              rcases h.cases with ⟨x6, a7, v, hr6, rfl, ⟨pv, nv, lv, pc, nc, lc, rfl, hE1, hE2⟩, ha7, hd, hg⟩ | ⟨c, hr6, hc, rfl, hg⟩
              · have hB := HB6.out.call hg hd
                replace Oe := Lib.hid (Oe.out.kt (entO_pst (by decide)) (by decide) (HB6.out.kc hg))
                replace Oa := Lib.hid (Oa.out.kt (dotO_pst _) (by decide) (HB6.out.kc hg))
                replace Ov := Lib.hid (Ov.out.kt (dotO_pst _) (by decide) (HB6.out.kc hg))
                replace Oc := Lib.hid (Oc.out.kt (dotO_pst _) (by decide) (HB6.out.kc hg))
                have Ow := Lib.hid hE1
                have Od := Lib.hid hE2
                clear hE1 hE2
                have HR6 := Lib.hid hr6
                have c9 := boxc hB.x1 9 _ rfl
                have f9 := boxf hB.x1 9
                have c10 := boxc hB.x1 10 _ rfl
                have f10 := boxf hB.x1 10
                have HB7 := Lib.hid ((hB.setl 9 (.slice pv nv lv)).setl 10 (.slice pc nc lc))
                replace Oe := Lib.hid (Oe.out.kt (entO_pst (by decide)) (by decide) (((hB.ks 9 (.slice pv nv lv)).trans ((hB.setl 9 (.slice pv nv lv)).ks 10 (.slice pc nc lc)))))
                replace Oa := Lib.hid (Oa.out.kt (dotO_pst _) (by decide) (((hB.ks 9 (.slice pv nv lv)).trans ((hB.setl 9 (.slice pv nv lv)).ks 10 (.slice pc nc lc)))))
                replace Ov := Lib.hid (Ov.out.kt (dotO_pst _) (by decide) (((hB.ks 9 (.slice pv nv lv)).trans ((hB.setl 9 (.slice pv nv lv)).ks 10 (.slice pc nc lc)))))
                replace Oc := Lib.hid (Oc.out.kt (dotO_pst _) (by decide) (((hB.ks 9 (.slice pv nv lv)).trans ((hB.setl 9 (.slice pv nv lv)).ks 10 (.slice pc nc lc)))))
                replace Ow := Lib.hid (Ow.out.kt (dotO_pst _) (by decide) (((hB.ks 9 (.slice pv nv lv)).trans ((hB.setl 9 (.slice pv nv lv)).ks 10 (.slice pc nc lc)))))
                replace Od := Lib.hid (Od.out.kt (dotO_pst _) (by decide) (((hB.ks 9 (.slice pv nv lv)).trans ((hB.setl 9 (.slice pv nv lv)).ks 10 (.slice pc nc lc)))))
                have HN7 := Lib.hid (number_any (w.heap.size + 1 + 1) s a7 _ HB7.out.rd hs)
                clear h hd hg hB hr6 HN6
                go_wp2_with fail
                (with_reducible refine HN7.out.mono ?_)
                rintro e w8 h
                rcases h.cases with ⟨x7, a8, v, hr7, rfl, rfl, ha8, hd, hg⟩ | ⟨c, hr7, hc, rfl, hg⟩
                · have hB := HB7.out.call hg hd
                  replace Oe := Lib.hid (Oe.out.kt (entO_pst (by decide)) (by decide) (HB7.out.kc hg))
                  replace Oa := Lib.hid (Oa.out.kt (dotO_pst _) (by decide) (HB7.out.kc hg))
                  replace Ov := Lib.hid (Ov.out.kt (dotO_pst _) (by decide) (HB7.out.kc hg))
                  replace Oc := Lib.hid (Oc.out.kt (dotO_pst _) (by decide) (HB7.out.kc hg))
                  replace Ow := Lib.hid (Ow.out.kt (dotO_pst _) (by decide) (HB7.out.kc hg))
                  replace Od := Lib.hid (Od.out.kt (dotO_pst _) (by decide) (HB7.out.kc hg))
                  have HR7 := Lib.hid hr7
                  have c11 := boxc hB.x1 11 _ rfl
                  have f11 := boxf hB.x1 11
                  have HB8 := Lib.hid (hB.setl 11 (.int .i64 (x7 : Int)))
                  replace Oe := Lib.hid (Oe.out.kt (entO_pst (by decide)) (by decide) ((hB.ks 11 (.int .i64 (x7 : Int)))))
                  replace Oa := Lib.hid (Oa.out.kt (dotO_pst _) (by decide) ((hB.ks 11 (.int .i64 (x7 : Int)))))
                  replace Ov := Lib.hid (Ov.out.kt (dotO_pst _) (by decide) ((hB.ks 11 (.int .i64 (x7 : Int)))))
                  replace Oc := Lib.hid (Oc.out.kt (dotO_pst _) (by decide) ((hB.ks 11 (.int .i64 (x7 : Int)))))
                  replace Ow := Lib.hid (Ow.out.kt (dotO_pst _) (by decide) ((hB.ks 11 (.int .i64 (x7 : Int)))))
                  replace Od := Lib.hid (Od.out.kt (dotO_pst _) (by decide) ((hB.ks 11 (.int .i64 (x7 : Int)))))
                  have HN8 := Lib.hid (rtext_any (w.heap.size + 1 + 1) s a8 _ HB8.out.rd hs)
                  clear h hd hg hB hr7 HN7
                  go_wp2_with fail
                  (with_reducible refine HN8.out.mono ?_)
                  rintro e w9 h
                  rcases h.cases with ⟨x8, a9, v, hr8, rfl, ⟨rfl, hs8⟩, ha9, hd, hg⟩ | ⟨c, hr8, hc, rfl, hg⟩
                  · have hB := HB8.out.call hg hd
                    replace Oe := Lib.hid (Oe.out.kt (entO_pst (by decide)) (by decide) (HB8.out.kc hg))
                    replace Oa := Lib.hid (Oa.out.kt (dotO_pst _) (by decide) (HB8.out.kc hg))
                    replace Ov := Lib.hid (Ov.out.kt (dotO_pst _) (by decide) (HB8.out.kc hg))
                    replace Oc := Lib.hid (Oc.out.kt (dotO_pst _) (by decide) (HB8.out.kc hg))
                    replace Ow := Lib.hid (Ow.out.kt (dotO_pst _) (by decide) (HB8.out.kc hg))
                    replace Od := Lib.hid (Od.out.kt (dotO_pst _) (by decide) (HB8.out.kc hg))
                    have HR8 := Lib.hid hr8
                    have c12 := boxc hB.x1 12 _ rfl
                    have f12 := boxf hB.x1 12
                    have HB9 := Lib.hid (hB.setl 12 (.string x8))
                    replace Oe := Lib.hid (Oe.out.kt (entO_pst (by decide)) (by decide) ((hB.ks 12 (.string x8))))
                    replace Oa := Lib.hid (Oa.out.kt (dotO_pst _) (by decide) ((hB.ks 12 (.string x8))))
                    replace Ov := Lib.hid (Ov.out.kt (dotO_pst _) (by decide) ((hB.ks 12 (.string x8))))
                    replace Oc := Lib.hid (Oc.out.kt (dotO_pst _) (by decide) ((hB.ks 12 (.string x8))))
                    replace Ow := Lib.hid (Ow.out.kt (dotO_pst _) (by decide) ((hB.ks 12 (.string x8))))
                    replace Od := Lib.hid (Od.out.kt (dotO_pst _) (by decide) ((hB.ks 12 (.string x8))))
                    have HN9 := Lib.hid (rtext_any (w.heap.size + 1 + 1) s a9 _ HB9.out.rd hs)
                    clear h hd hg hB hr8 HN8
                    go_wp2_with fail
                    (with_reducible refine HN9.out.mono ?_)
                    rintro e w10 h
                    rcases h.cases with ⟨x9, a10, v, hr9, rfl, ⟨rfl, hs9⟩, ha10, hd, hg⟩ | ⟨c, hr9, hc, rfl, hg⟩
                    · have hB := HB9.out.call hg hd
                      replace Oe := Lib.hid (Oe.out.kt (entO_pst (by decide)) (by decide) (HB9.out.kc hg))
                      replace Oa := Lib.hid (Oa.out.kt (dotO_pst _) (by decide) (HB9.out.kc hg))
                      replace Ov := Lib.hid (Ov.out.kt (dotO_pst _) (by decide) (HB9.out.kc hg))
                      replace Oc := Lib.hid (Oc.out.kt (dotO_pst _) (by decide) (HB9.out.kc hg))
                      replace Ow := Lib.hid (Ow.out.kt (dotO_pst _) (by decide) (HB9.out.kc hg))
                      replace Od := Lib.hid (Od.out.kt (dotO_pst _) (by decide) (HB9.out.kc hg))
                      have HR9 := Lib.hid hr9
                      have c13 := boxc hB.x1 13 _ rfl
                      have f13 := boxf hB.x1 13
                      have HB10 := Lib.hid (hB.setl 13 (.string x9))
                      replace Oe := Lib.hid (Oe.out.kt (entO_pst (by decide)) (by decide) ((hB.ks 13 (.string x9))))
                      replace Oa := Lib.hid (Oa.out.kt (dotO_pst _) (by decide) ((hB.ks 13 (.string x9))))
                      replace Ov := Lib.hid (Ov.out.kt (dotO_pst _) (by decide) ((hB.ks 13 (.string x9))))
                      replace Oc := Lib.hid (Oc.out.kt (dotO_pst _) (by decide) ((hB.ks 13 (.string x9))))
                      replace Ow := Lib.hid (Ow.out.kt (dotO_pst _) (by decide) ((hB.ks 13 (.string x9))))
                      replace Od := Lib.hid (Od.out.kt (dotO_pst _) (by decide) ((hB.ks 13 (.string x9))))
                      have HN10 := Lib.hid (rl_string (w.heap.size + 1 + 1) s a10 _ HB10.out.rd hs)
                      clear h hd hg hB hr9 HN9
                      go_wp2_with fail
                      (with_reducible refine HN10.out.mono ?_)
                      rintro e w11 h
                      rcases h.cases with ⟨x10, a11, v, hr10, rfl, hE, ha11, hd, hg⟩ | ⟨c, hr10, hc, rfl, hg⟩
                      · have hB := HB10.out.call hg hd
                        replace Oe := Lib.hid (Oe.out.kt (entO_pst (by decide)) (by decide) (HB10.out.kc hg))
                        replace Oa := Lib.hid (Oa.out.kt (dotO_pst _) (by decide) (HB10.out.kc hg))
                        replace Ov := Lib.hid (Ov.out.kt (dotO_pst _) (by decide) (HB10.out.kc hg))
                        replace Oc := Lib.hid (Oc.out.kt (dotO_pst _) (by decide) (HB10.out.kc hg))
                        replace Ow := Lib.hid (Ow.out.kt (dotO_pst _) (by decide) (HB10.out.kc hg))
                        replace Od := Lib.hid (Od.out.kt (dotO_pst _) (by decide) (HB10.out.kc hg))
                        obtain ⟨os, ms, ks, rfl⟩ := hE.form
                        have Os := Lib.hid hE
                        clear hE
                        have HR10 := Lib.hid hr10
                        have c14 := boxc hB.x1 14 _ rfl
                        have f14 := boxf hB.x1 14
                        have HB11 := Lib.hid (hB.setl 14 (.slice os ms ks))
                        replace Oe := Lib.hid (Oe.out.kt (entO_pst (by decide)) (by decide) ((hB.ks 14 (.slice os ms ks))))
                        replace Oa := Lib.hid (Oa.out.kt (dotO_pst _) (by decide) ((hB.ks 14 (.slice os ms ks))))
                        replace Ov := Lib.hid (Ov.out.kt (dotO_pst _) (by decide) ((hB.ks 14 (.slice os ms ks))))
                        replace Oc := Lib.hid (Oc.out.kt (dotO_pst _) (by decide) ((hB.ks 14 (.slice os ms ks))))
                        replace Ow := Lib.hid (Ow.out.kt (dotO_pst _) (by decide) ((hB.ks 14 (.slice os ms ks))))
                        replace Od := Lib.hid (Od.out.kt (dotO_pst _) (by decide) ((hB.ks 14 (.slice os ms ks))))
                        replace Os := Lib.hid (Os.out.kt (strO_pst _) (by decide) ((hB.ks 14 (.slice os ms ks))))
                        have HN11 := Lib.hid (number_any (w.heap.size + 1 + 1) s a11 _ HB11.out.rd hs)
                        clear h hd hg hB hr10 HN10
                        go_wp2_with fail
                        (with_reducible refine HN11.out.mono ?_)
                        rintro e w12 h
                        rcases h.cases with ⟨x11, a12, v, hr11, rfl, rfl, ha12, hd, hg⟩ | ⟨c, hr11, hc, rfl, hg⟩
                        · have hB := HB11.out.call hg hd
                          replace Oe := Lib.hid (Oe.out.kt (entO_pst (by decide)) (by decide) (HB11.out.kc hg))
                          replace Oa := Lib.hid (Oa.out.kt (dotO_pst _) (by decide) (HB11.out.kc hg))
                          replace Ov := Lib.hid (Ov.out.kt (dotO_pst _) (by decide) (HB11.out.kc hg))
                          replace Oc := Lib.hid (Oc.out.kt (dotO_pst _) (by decide) (HB11.out.kc hg))
                          replace Ow := Lib.hid (Ow.out.kt (dotO_pst _) (by decide) (HB11.out.kc hg))
                          replace Od := Lib.hid (Od.out.kt (dotO_pst _) (by decide) (HB11.out.kc hg))
                          replace Os := Lib.hid (Os.out.kt (strO_pst _) (by decide) (HB11.out.kc hg))
                          have HR11 := Lib.hid hr11
                          have hX1 : w12.heap[w.heap.size]? = some (.cells #[.int .i64 (x0 : Int), .int .i64 (x1 : Int), .int .i64 (x2 : Int), .int .i64 (x3 : Int), .int .i64 (x4 : Int), .slice oe me ke, .slice oa ma ka, .slice ov mv kv, .slice oc mc kc, .slice pv nv lv, .slice pc nc lc, .int .i64 (x7 : Int), .string x8, .string x9, .slice os ms ks, .int .i64 0] 33 (0, 0)) := hB.x1
                          have c0 := boxc hX1 0 _ rfl
                          have f0 := boxf hX1 0
                          have c1 := boxc hX1 1 _ rfl
                          have f1 := boxf hX1 1
                          have c2 := boxc hX1 2 _ rfl
                          have f2 := boxf hX1 2
                          have c3 := boxc hX1 3 _ rfl
                          have f3 := boxf hX1 3
                          have c4 := boxc hX1 4 _ rfl
                          have f4 := boxf hX1 4
                          have c5 := boxc hX1 5 _ rfl
                          have f5 := boxf hX1 5
                          have c6 := boxc hX1 6 _ rfl
                          have f6 := boxf hX1 6
                          have c7 := boxc hX1 7 _ rfl
                          have f7 := boxf hX1 7
                          have c8 := boxc hX1 8 _ rfl
                          have f8 := boxf hX1 8
                          have c9 := boxc hX1 9 _ rfl
                          have f9 := boxf hX1 9
                          have c10 := boxc hX1 10 _ rfl
                          have f10 := boxf hX1 10
                          have c11 := boxc hX1 11 _ rfl
                          have f11 := boxf hX1 11
                          have c12 := boxc hX1 12 _ rfl
                          have f12 := boxf hX1 12
                          have c13 := boxc hX1 13 _ rfl
                          have f13 := boxf hX1 13
                          have c14 := boxc hX1 14 _ rfl
                          have f14 := boxf hX1 14
                          have c15 := boxc hX1 15 _ rfl
                          have f15 := boxf hX1 15
                          clear hX1
                          have HB12 := Lib.hid (hB.setl 15 (.int .i64 (x11 : Int)))
                          replace Oe := Lib.hid (Oe.out.kt (entO_pst (by decide)) (by decide) ((hB.ks 15 (.int .i64 (x11 : Int)))))
                          replace Oa := Lib.hid (Oa.out.kt (dotO_pst _) (by decide) ((hB.ks 15 (.int .i64 (x11 : Int)))))
                          replace Ov := Lib.hid (Ov.out.kt (dotO_pst _) (by decide) ((hB.ks 15 (.int .i64 (x11 : Int)))))
                          replace Oc := Lib.hid (Oc.out.kt (dotO_pst _) (by decide) ((hB.ks 15 (.int .i64 (x11 : Int)))))
                          replace Ow := Lib.hid (Ow.out.kt (dotO_pst _) (by decide) ((hB.ks 15 (.int .i64 (x11 : Int)))))
                          replace Od := Lib.hid (Od.out.kt (dotO_pst _) (by decide) ((hB.ks 15 (.int .i64 (x11 : Int)))))
                          replace Os := Lib.hid (Os.out.kt (strO_pst _) (by decide) ((hB.ks 15 (.int .i64 (x11 : Int)))))
                          have HBL := Lib.hid hB
                          clear h hd hg hB hr11 HN11
                          have hrc := HBL.out.rd.cells
                          have rc1 := hrc.2.1
                          clear hrc
                          have HM : Hid (cd.msgR (kit.bytes s) 0 = .ok (⟨x0, x1, x2, x3, x4, x5.1, x5.2.1, x5.2.2.1, x5.2.2.2, x6.1, x6.2, x7, x8, x9, x10, x11⟩, a12)) := by show _ = _; unfold cd.msgR; rw [cd.seqR_ok HR0.out, cd.seqR_ok HR1.out, cd.seqR_ok HR2.out, cd.seqR_ok HR3.out, cd.seqR_ok HR4.out, cd.seqR_ok HR5.out, cd.seqR_ok HR6.out, cd.seqR_ok HR7.out, cd.seqR_ok HR8.out, cd.seqR_ok HR9.out, cd.seqR_ok HR10.out, cd.seqR_ok HR11.out]
                          clear HR0 HR1 HR2 HR3 HR4 HR5 HR6 HR7 HR8 HR9 HR10 HR11
                          by_cases hlt : a12 < s.size
                          · have hlt1 : (a12 : Int) < (s.size : Int) := by omega
                            have HE : Hid (cd.read (kit.bytes s) = .error 3) := read_more HM.out (by rw [kit.bytes_len]; exact hlt)
                            have HR3 : Hid (∀ W : World, Calls Try.prog 34 #[.int .i64 3] W fun e' w' => e' = refusal 3 ∧ w' = W) := fun W => refuse_n _ (by omega) W
                            go_wp2_with fail
                            (with_reducible refine (HR3.out _).mono ?_)
                            rintro e w13 ⟨rfl, rfl⟩
                            refine leaves_cons (f := 28) (args := #[.pointer (some ⟨w.heap.size, 0, none⟩), .pointer (some ⟨(w.heap.size + 1), 0, none⟩)]) (by simp) (by simp [go_sem]) ?_
                            refine (rcaught w.heap.size (w.heap.size + 1) _ _ _ _ HB12.out.x1 HB12.out.x0 (by omega) rfl).mono ?_
                            rintro e u' w'' ⟨rfl, rfl, r0, r1, rB⟩
                            exact read_leaves rfl rfl r0 r1 rfl ⟨(grown_old HB12.out.g (by omega)).trans (rB _ (by omega) (by omega) HB12.out.g.size), Or.inr ⟨3, HE.out, by omega, rfl⟩⟩
                          · have hlt1 : ¬ (a12 : Int) < (s.size : Int) := by omega
                            have HE := Lib.hid (read_ok HM.out (by rw [kit.bytes_len]; exact hlt))
                            have d0 := boxc HBL.out.x0 0 _ rfl
                            have g0 := boxf HBL.out.x0 0
                            go_wp2
                            refine leaves_cons (f := 28) (args := #[.pointer (some ⟨w.heap.size, 0, none⟩), .pointer (some ⟨(w.heap.size + 1), 0, none⟩)]) (by simp) (by simp [go_sem]) ?_
                            refine (ridle ⟨w.heap.size, 0, none⟩ ⟨(w.heap.size + 1), 0, none⟩ _).mono ?_
                            rintro e u' w'' ⟨rfl, rfl, rfl⟩
                            have X1 := wset_row (w := (w12.setCell ⟨w.heap.size, 15, none⟩ (.int .i64 (x11 : Int)))) [.int .i64 (x0 : Int), .int .i64 (x1 : Int), .int .i64 (x2 : Int), .int .i64 (x3 : Int), .int .i64 (x4 : Int), .slice oe me ke, .slice oa ma ka, .slice ov mv kv, .slice oc mc kc, .slice pv nv lv, .slice pc nc lc, .int .i64 (x7 : Int), .string x8, .string x9, .slice os ms ks, .int .i64 (x11 : Int)] HB12.out.x1 rfl
                            have X0 := (wset_other [.int .i64 (x0 : Int), .int .i64 (x1 : Int), .int .i64 (x2 : Int), .int .i64 (x3 : Int), .int .i64 (x4 : Int), .slice oe me ke, .slice oa ma ka, .slice ov mv kv, .slice oc mc kc, .slice pv nv lv, .slice pc nc lc, .int .i64 (x7 : Int), .string x8, .string x9, .slice os ms ks, .int .i64 (x11 : Int)] (w12.setCell ⟨w.heap.size, 15, none⟩ (.int .i64 (x11 : Int))) w.heap.size 0 (w.heap.size + 1) (by omega)).trans HB12.out.x0
                            have K1 := wset_kt [.int .i64 (x0 : Int), .int .i64 (x1 : Int), .int .i64 (x2 : Int), .int .i64 (x3 : Int), .int .i64 (x4 : Int), .slice oe me ke, .slice oa ma ka, .slice ov mv kv, .slice oc mc kc, .slice pv nv lv, .slice pc nc lc, .int .i64 (x7 : Int), .string x8, .string x9, .slice os ms ks, .int .i64 (x11 : Int)] (w12.setCell ⟨w.heap.size, 15, none⟩ (.int .i64 (x11 : Int))) w.heap.size 0 _ _ HB12.out.x1
                            have K2 := wset_kt [.int .i64 0] (wset (w12.setCell ⟨w.heap.size, 15, none⟩ (.int .i64 (x11 : Int))) w.heap.size 0 [.int .i64 (x0 : Int), .int .i64 (x1 : Int), .int .i64 (x2 : Int), .int .i64 (x3 : Int), .int .i64 (x4 : Int), .slice oe me ke, .slice oa ma ka, .slice ov mv kv, .slice oc mc kc, .slice pv nv lv, .slice pc nc lc, .int .i64 (x7 : Int), .string x8, .string x9, .slice os ms ks, .int .i64 (x11 : Int)]) (w.heap.size + 1) 0 _ _ X0
                            have BW := wset_below [.int .i64 0] _ w (w.heap.size + 1) 0 w.heap.size (by omega) (wset_below [.int .i64 (x0 : Int), .int .i64 (x1 : Int), .int .i64 (x2 : Int), .int .i64 (x3 : Int), .int .i64 (x4 : Int), .slice oe me ke, .slice oa ma ka, .slice ov mv kv, .slice oc mc kc, .slice pv nv lv, .slice pc nc lc, .int .i64 (x7 : Int), .string x8, .string x9, .slice os ms ks, .int .i64 (x11 : Int)] (w12.setCell ⟨w.heap.size, 15, none⟩ (.int .i64 (x11 : Int))) w w.heap.size 0 w.heap.size (by omega) (grown_old HB12.out.g (by omega)))
                            have HMO : MsgO (wset (wset (w12.setCell ⟨w.heap.size, 15, none⟩ (.int .i64 (x11 : Int))) w.heap.size 0 [.int .i64 (x0 : Int), .int .i64 (x1 : Int), .int .i64 (x2 : Int), .int .i64 (x3 : Int), .int .i64 (x4 : Int), .slice oe me ke, .slice oa ma ka, .slice ov mv kv, .slice oc mc kc, .slice pv nv lv, .slice pc nc lc, .int .i64 (x7 : Int), .string x8, .string x9, .slice os ms ks, .int .i64 (x11 : Int)]) (w.heap.size + 1) 0 [.int .i64 0]) [.int .i64 (x0 : Int), .int .i64 (x1 : Int), .int .i64 (x2 : Int), .int .i64 (x3 : Int), .int .i64 (x4 : Int), .slice oe me ke, .slice oa ma ka, .slice ov mv kv, .slice oc mc kc, .slice pv nv lv, .slice pc nc lc, .int .i64 (x7 : Int), .string x8, .string x9, .slice os ms ks, .int .i64 (x11 : Int)] ⟨x0, x1, x2, x3, x4, x5.1, x5.2.1, x5.2.2.1, x5.2.2.2, x6.1, x6.2, x7, x8, x9, x10, x11⟩ :=
                              ⟨oe, me, ke, oa, ma, ka, ov, mv, kv, oc, mc, kc, pv, nv, lv, pc, nc, lc, os, ms, ks, rfl, ((Oe.out.kt (entO_pst (by decide)) (by decide) K1).kt (entO_pst (by decide)) (by decide) K2), ((Oa.out.kt (dotO_pst _) (by decide) K1).kt (dotO_pst _) (by decide) K2), ((Ov.out.kt (dotO_pst _) (by decide) K1).kt (dotO_pst _) (by decide) K2), ((Oc.out.kt (dotO_pst _) (by decide) K1).kt (dotO_pst _) (by decide) K2), ((Ow.out.kt (dotO_pst _) (by decide) K1).kt (dotO_pst _) (by decide) K2), ((Od.out.kt (dotO_pst _) (by decide) K1).kt (dotO_pst _) (by decide) K2), hs8, hs9, ((Os.out.kt (strO_pst _) (by decide) K1).kt (strO_pst _) (by decide) K2)⟩
                            exact read_leaves rfl rfl ((wset_other [.int .i64 0] (wset (w12.setCell ⟨w.heap.size, 15, none⟩ (.int .i64 (x11 : Int))) w.heap.size 0 [.int .i64 (x0 : Int), .int .i64 (x1 : Int), .int .i64 (x2 : Int), .int .i64 (x3 : Int), .int .i64 (x4 : Int), .slice oe me ke, .slice oa ma ka, .slice ov mv kv, .slice oc mc kc, .slice pv nv lv, .slice pc nc lc, .int .i64 (x7 : Int), .string x8, .string x9, .slice os ms ks, .int .i64 (x11 : Int)]) (w.heap.size + 1) 0 w.heap.size (by omega)).trans X1) (wset_row [.int .i64 0] X0 rfl) rfl ⟨BW, Or.inl ⟨_, [.int .i64 (x0 : Int), .int .i64 (x1 : Int), .int .i64 (x2 : Int), .int .i64 (x3 : Int), .int .i64 (x4 : Int), .slice oe me ke, .slice oa ma ka, .slice ov mv kv, .slice oc mc kc, .slice pv nv lv, .slice pc nc lc, .int .i64 (x7 : Int), .string x8, .string x9, .slice os ms ks, .int .i64 (x11 : Int)], HE.out, rfl, HMO⟩⟩
                        · have HE : Hid (cd.read (kit.bytes s) = .error c) := read_err (by unfold cd.msgR; rw [cd.seqR_ok HR0.out, cd.seqR_ok HR1.out, cd.seqR_ok HR2.out, cd.seqR_ok HR3.out, cd.seqR_ok HR4.out, cd.seqR_ok HR5.out, cd.seqR_ok HR6.out, cd.seqR_ok HR7.out, cd.seqR_ok HR8.out, cd.seqR_ok HR9.out, cd.seqR_ok HR10.out, cd.seqR_err hr11])
                          have hB := HB11.out.failed hg
                          clear h
                          refine leaves_cons (f := 28) (args := #[.pointer (some ⟨w.heap.size, 0, none⟩), .pointer (some ⟨(w.heap.size + 1), 0, none⟩)]) (by simp) (by simp [go_sem]) ?_
                          refine (rcaught w.heap.size (w.heap.size + 1) _ _ _ w12 hB.2.2 hB.2.1 (by omega) rfl).mono ?_
                          rintro e u' w'' ⟨rfl, rfl, r0, r1, rB⟩
                          exact read_leaves rfl rfl r0 r1 rfl ⟨(grown_old hB.1 (by omega)).trans (rB _ (by omega) (by omega) hB.1.size), Or.inr ⟨c, HE.out, hc, rfl⟩⟩
                      · have HE : Hid (cd.read (kit.bytes s) = .error c) := read_err (by unfold cd.msgR; rw [cd.seqR_ok HR0.out, cd.seqR_ok HR1.out, cd.seqR_ok HR2.out, cd.seqR_ok HR3.out, cd.seqR_ok HR4.out, cd.seqR_ok HR5.out, cd.seqR_ok HR6.out, cd.seqR_ok HR7.out, cd.seqR_ok HR8.out, cd.seqR_ok HR9.out, cd.seqR_err hr10])
                        have hB := HB10.out.failed hg
                        clear h
                        refine leaves_cons (f := 28) (args := #[.pointer (some ⟨w.heap.size, 0, none⟩), .pointer (some ⟨(w.heap.size + 1), 0, none⟩)]) (by simp) (by simp [go_sem]) ?_
                        refine (rcaught w.heap.size (w.heap.size + 1) _ _ _ w11 hB.2.2 hB.2.1 (by omega) rfl).mono ?_
                        rintro e u' w'' ⟨rfl, rfl, r0, r1, rB⟩
                        exact read_leaves rfl rfl r0 r1 rfl ⟨(grown_old hB.1 (by omega)).trans (rB _ (by omega) (by omega) hB.1.size), Or.inr ⟨c, HE.out, hc, rfl⟩⟩
                    · have HE : Hid (cd.read (kit.bytes s) = .error c) := read_err (by unfold cd.msgR; rw [cd.seqR_ok HR0.out, cd.seqR_ok HR1.out, cd.seqR_ok HR2.out, cd.seqR_ok HR3.out, cd.seqR_ok HR4.out, cd.seqR_ok HR5.out, cd.seqR_ok HR6.out, cd.seqR_ok HR7.out, cd.seqR_ok HR8.out, cd.seqR_err hr9])
                      have hB := HB9.out.failed hg
                      clear h
                      refine leaves_cons (f := 28) (args := #[.pointer (some ⟨w.heap.size, 0, none⟩), .pointer (some ⟨(w.heap.size + 1), 0, none⟩)]) (by simp) (by simp [go_sem]) ?_
                      refine (rcaught w.heap.size (w.heap.size + 1) _ _ _ w10 hB.2.2 hB.2.1 (by omega) rfl).mono ?_
                      rintro e u' w'' ⟨rfl, rfl, r0, r1, rB⟩
                      exact read_leaves rfl rfl r0 r1 rfl ⟨(grown_old hB.1 (by omega)).trans (rB _ (by omega) (by omega) hB.1.size), Or.inr ⟨c, HE.out, hc, rfl⟩⟩
                  · have HE : Hid (cd.read (kit.bytes s) = .error c) := read_err (by unfold cd.msgR; rw [cd.seqR_ok HR0.out, cd.seqR_ok HR1.out, cd.seqR_ok HR2.out, cd.seqR_ok HR3.out, cd.seqR_ok HR4.out, cd.seqR_ok HR5.out, cd.seqR_ok HR6.out, cd.seqR_ok HR7.out, cd.seqR_err hr8])
                    have hB := HB8.out.failed hg
                    clear h
                    refine leaves_cons (f := 28) (args := #[.pointer (some ⟨w.heap.size, 0, none⟩), .pointer (some ⟨(w.heap.size + 1), 0, none⟩)]) (by simp) (by simp [go_sem]) ?_
                    refine (rcaught w.heap.size (w.heap.size + 1) _ _ _ w9 hB.2.2 hB.2.1 (by omega) rfl).mono ?_
                    rintro e u' w'' ⟨rfl, rfl, r0, r1, rB⟩
                    exact read_leaves rfl rfl r0 r1 rfl ⟨(grown_old hB.1 (by omega)).trans (rB _ (by omega) (by omega) hB.1.size), Or.inr ⟨c, HE.out, hc, rfl⟩⟩
                · have HE : Hid (cd.read (kit.bytes s) = .error c) := read_err (by unfold cd.msgR; rw [cd.seqR_ok HR0.out, cd.seqR_ok HR1.out, cd.seqR_ok HR2.out, cd.seqR_ok HR3.out, cd.seqR_ok HR4.out, cd.seqR_ok HR5.out, cd.seqR_ok HR6.out, cd.seqR_err hr7])
                  have hB := HB7.out.failed hg
                  clear h
                  refine leaves_cons (f := 28) (args := #[.pointer (some ⟨w.heap.size, 0, none⟩), .pointer (some ⟨(w.heap.size + 1), 0, none⟩)]) (by simp) (by simp [go_sem]) ?_
                  refine (rcaught w.heap.size (w.heap.size + 1) _ _ _ w8 hB.2.2 hB.2.1 (by omega) rfl).mono ?_
                  rintro e u' w'' ⟨rfl, rfl, r0, r1, rB⟩
                  exact read_leaves rfl rfl r0 r1 rfl ⟨(grown_old hB.1 (by omega)).trans (rB _ (by omega) (by omega) hB.1.size), Or.inr ⟨c, HE.out, hc, rfl⟩⟩
              · have HE : Hid (cd.read (kit.bytes s) = .error c) := read_err (by unfold cd.msgR; rw [cd.seqR_ok HR0.out, cd.seqR_ok HR1.out, cd.seqR_ok HR2.out, cd.seqR_ok HR3.out, cd.seqR_ok HR4.out, cd.seqR_ok HR5.out, cd.seqR_err hr6])
                have hB := HB6.out.failed hg
                clear h
                refine leaves_cons (f := 28) (args := #[.pointer (some ⟨w.heap.size, 0, none⟩), .pointer (some ⟨(w.heap.size + 1), 0, none⟩)]) (by simp) (by simp [go_sem]) ?_
                refine (rcaught w.heap.size (w.heap.size + 1) _ _ _ w7 hB.2.2 hB.2.1 (by omega) rfl).mono ?_
                rintro e u' w'' ⟨rfl, rfl, r0, r1, rB⟩
                exact read_leaves rfl rfl r0 r1 rfl ⟨(grown_old hB.1 (by omega)).trans (rB _ (by omega) (by omega) hB.1.size), Or.inr ⟨c, HE.out, hc, rfl⟩⟩
            · have HE : Hid (cd.read (kit.bytes s) = .error c) := read_err (by unfold cd.msgR; rw [cd.seqR_ok HR0.out, cd.seqR_ok HR1.out, cd.seqR_ok HR2.out, cd.seqR_ok HR3.out, cd.seqR_ok HR4.out, cd.seqR_err hr5])
              have hB := HB5.out.failed hg
              clear h
              refine leaves_cons (f := 28) (args := #[.pointer (some ⟨w.heap.size, 0, none⟩), .pointer (some ⟨(w.heap.size + 1), 0, none⟩)]) (by simp) (by simp [go_sem]) ?_
              refine (rcaught w.heap.size (w.heap.size + 1) _ _ _ w6 hB.2.2 hB.2.1 (by omega) rfl).mono ?_
              rintro e u' w'' ⟨rfl, rfl, r0, r1, rB⟩
              exact read_leaves rfl rfl r0 r1 rfl ⟨(grown_old hB.1 (by omega)).trans (rB _ (by omega) (by omega) hB.1.size), Or.inr ⟨c, HE.out, hc, rfl⟩⟩
          · have HE : Hid (cd.read (kit.bytes s) = .error c) := read_err (by unfold cd.msgR; rw [cd.seqR_ok HR0.out, cd.seqR_ok HR1.out, cd.seqR_ok HR2.out, cd.seqR_ok HR3.out, cd.seqR_err hr4])
            have hB := HB4.out.failed hg
            clear h
            refine leaves_cons (f := 28) (args := #[.pointer (some ⟨w.heap.size, 0, none⟩), .pointer (some ⟨(w.heap.size + 1), 0, none⟩)]) (by simp) (by simp [go_sem]) ?_
            refine (rcaught w.heap.size (w.heap.size + 1) _ _ _ w5 hB.2.2 hB.2.1 (by omega) rfl).mono ?_
            rintro e u' w'' ⟨rfl, rfl, r0, r1, rB⟩
            exact read_leaves rfl rfl r0 r1 rfl ⟨(grown_old hB.1 (by omega)).trans (rB _ (by omega) (by omega) hB.1.size), Or.inr ⟨c, HE.out, hc, rfl⟩⟩
        · have HE : Hid (cd.read (kit.bytes s) = .error c) := read_err (by unfold cd.msgR; rw [cd.seqR_ok HR0.out, cd.seqR_ok HR1.out, cd.seqR_ok HR2.out, cd.seqR_err hr3])
          have hB := HB3.out.failed hg
          clear h
          refine leaves_cons (f := 28) (args := #[.pointer (some ⟨w.heap.size, 0, none⟩), .pointer (some ⟨(w.heap.size + 1), 0, none⟩)]) (by simp) (by simp [go_sem]) ?_
          refine (rcaught w.heap.size (w.heap.size + 1) _ _ _ w4 hB.2.2 hB.2.1 (by omega) rfl).mono ?_
          rintro e u' w'' ⟨rfl, rfl, r0, r1, rB⟩
          exact read_leaves rfl rfl r0 r1 rfl ⟨(grown_old hB.1 (by omega)).trans (rB _ (by omega) (by omega) hB.1.size), Or.inr ⟨c, HE.out, hc, rfl⟩⟩
      · have HE : Hid (cd.read (kit.bytes s) = .error c) := read_err (by unfold cd.msgR; rw [cd.seqR_ok HR0.out, cd.seqR_ok HR1.out, cd.seqR_err hr2])
        have hB := HB2.out.failed hg
        clear h
        refine leaves_cons (f := 28) (args := #[.pointer (some ⟨w.heap.size, 0, none⟩), .pointer (some ⟨(w.heap.size + 1), 0, none⟩)]) (by simp) (by simp [go_sem]) ?_
        refine (rcaught w.heap.size (w.heap.size + 1) _ _ _ w3 hB.2.2 hB.2.1 (by omega) rfl).mono ?_
        rintro e u' w'' ⟨rfl, rfl, r0, r1, rB⟩
        exact read_leaves rfl rfl r0 r1 rfl ⟨(grown_old hB.1 (by omega)).trans (rB _ (by omega) (by omega) hB.1.size), Or.inr ⟨c, HE.out, hc, rfl⟩⟩
    · have HE : Hid (cd.read (kit.bytes s) = .error c) := read_err (by unfold cd.msgR; rw [cd.seqR_ok HR0.out, cd.seqR_err hr1])
      have hB := HB1.out.failed hg
      clear h
      refine leaves_cons (f := 28) (args := #[.pointer (some ⟨w.heap.size, 0, none⟩), .pointer (some ⟨(w.heap.size + 1), 0, none⟩)]) (by simp) (by simp [go_sem]) ?_
      refine (rcaught w.heap.size (w.heap.size + 1) _ _ _ w2 hB.2.2 hB.2.1 (by omega) rfl).mono ?_
      rintro e u' w'' ⟨rfl, rfl, r0, r1, rB⟩
      exact read_leaves rfl rfl r0 r1 rfl ⟨(grown_old hB.1 (by omega)).trans (rB _ (by omega) (by omega) hB.1.size), Or.inr ⟨c, HE.out, hc, rfl⟩⟩
  · have HE : Hid (cd.read (kit.bytes s) = .error c) := read_err (by unfold cd.msgR; rw [cd.seqR_err hr0])
    have hB := HB0.out.failed hg
    clear h
    refine leaves_cons (f := 28) (args := #[.pointer (some ⟨w.heap.size, 0, none⟩), .pointer (some ⟨(w.heap.size + 1), 0, none⟩)]) (by simp) (by simp [go_sem]) ?_
    refine (rcaught w.heap.size (w.heap.size + 1) _ _ _ w1 hB.2.2 hB.2.1 (by omega) rfl).mono ?_
    rintro e u' w'' ⟨rfl, rfl, r0, r1, rB⟩
    exact read_leaves rfl rfl r0 r1 rfl ⟨(grown_old hB.1 (by omega)).trans (rB _ (by omega) (by omega) hB.1.size), Or.inr ⟨c, HE.out, hc, rfl⟩⟩
end Go.Proofs.Ytghbkieflifegaa
