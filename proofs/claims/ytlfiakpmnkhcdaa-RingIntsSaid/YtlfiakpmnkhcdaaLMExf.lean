import Derived.Test.YtlfiakpmnkhcdaaLZN
namespace Ob
set_option maxRecDepth 1000000 in
theorem lb1_2049 : lb1 384 2049 = true := by decide +kernel
set_option maxRecDepth 1000000 in
theorem lb1_2817 : lb1 640 2817 = true := by decide +kernel
set_option maxRecDepth 1000000 in
theorem lb1_4097 : lb1 2048 4097 = true := by decide +kernel
set_option maxRecDepth 1000000 in
theorem lb1_8193 : lb1 2048 8193 = true := by decide +kernel
set_option maxRecDepth 1000000 in
theorem lb1_12289 : lb1 2048 12289 = true := by decide +kernel
end Ob
